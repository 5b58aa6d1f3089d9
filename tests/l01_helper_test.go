package tests

import (
	"math"
	"slices"
	"testing"

	"loop.example/g00203/impl"
)

const (
	maxId   = 1000000000
	farLow  = math.MinInt64
	farHigh = math.MaxInt64
)

func leg(shard, account, asset, amount int64) impl.Leg {
	return impl.Leg{Shard: shard, Account: account, Asset: asset, Amount: amount}
}

func contract(id int64, legs ...impl.Leg) impl.Contract {
	return impl.Contract{Id: id, Legs: legs}
}

// pair is the least right contract: 5 of asset 0 go from shard 0 to shard 1.
func pair(id int64) impl.Contract {
	return contract(id, leg(0, 0, 0, -5), leg(1, 0, 0, 5))
}

// chain is a right contract of n legs (2 or more) of one asset, each at a place of its own.
func chain(id int64, n int) impl.Contract {
	c := impl.Contract{Id: id}
	for i := range n {
		c.Legs = append(c.Legs, leg(int64(i)%3, int64(i)/3, 1, 1))
	}
	c.Legs[n-1].Amount = int64(1 - n)
	return c
}

func cloneContract(c impl.Contract) impl.Contract {
	return impl.Contract{Id: c.Id, Legs: slices.Clone(c.Legs)}
}

func sameLegs(a, b []impl.Leg) bool {
	return slices.Equal(a, b)
}

func sameContracts(a, b impl.Contract) bool {
	return a.Id == b.Id && sameLegs(a.Legs, b.Legs)
}

// dice are numbers that look thrown and are the same in every run.
type dice uint64

func (d *dice) below(n int64) int64 {
	*d = *d*6364136223846793005 + 1442695040888963407
	return int64(uint64(*d)>>33) % n
}

// rightContract throws a contract without a fault: of some assets it gives
// at one place and takes at others.
func (d *dice) rightContract() impl.Contract {
	for {
		c := impl.Contract{Id: 1 + d.below(maxId)}
		used := map[impl.Leg]int{}
		for range 1 + d.below(2) {
			c.Legs = append(c.Legs, d.balancedLegs(used)...)
		}
		if wantContractFault(c) == impl.OK {
			return c
		}
	}
}

func (d *dice) balancedLegs(used map[impl.Leg]int) []impl.Leg {
	asset := d.below(impl.MaxAssets)
	n := 2 + d.below(3)
	var legs []impl.Leg
	var sum int64
	for int64(len(legs)) < n {
		l := leg(d.below(impl.MaxShards), d.below(impl.MaxAccounts), asset, 0)
		if used[l]++; used[l] > 1 {
			continue
		}
		l.Amount = 1 + d.below(9)
		if d.below(2) == 0 {
			l.Amount = -l.Amount
		}
		if int64(len(legs)) == n-1 {
			l.Amount = -sum
		}
		sum += l.Amount
		legs = append(legs, l)
	}
	return legs
}

// anyContract throws one that may have faults of every kind.
func (d *dice) anyContract() impl.Contract {
	c := d.rightContract()
	ids := []int64{farLow, -1, 0, 1, maxId, maxId + 1, farHigh}
	if d.below(6) == 0 {
		c.Id = ids[d.below(int64(len(ids)))]
	}
	for range d.below(3) {
		d.spoilLegs(&c)
	}
	return c
}

func (d *dice) spoilLegs(c *impl.Contract) {
	if len(c.Legs) == 0 {
		return
	}
	at := d.below(int64(len(c.Legs)))
	odd := []int64{farLow, -impl.MaxAmount - 1, -impl.MaxAmount, -1, 0, 1, 2, 3, 5, 6, impl.MaxAmount, impl.MaxAmount + 1, farHigh}
	n := odd[d.below(int64(len(odd)))]
	switch d.below(7) {
	case 0:
		c.Legs[at].Shard = n
	case 1:
		c.Legs[at].Account = n
	case 2:
		c.Legs[at].Asset = n
	case 3:
		c.Legs[at].Amount = n
	case 4:
		c.Legs = c.Legs[:at]
	case 5:
		c.Legs = append(c.Legs, c.Legs[at])
	case 6:
		c.Legs = append(c.Legs, c.Legs...)
	}
}

// wantLegFault and wantContractFault tell the codes of chapter 1 once more,
// in another way than the program: by listing what is wrong.
func wantLegFault(l impl.Leg) int64 {
	inside := func(n, from, to int64) bool { return n >= from && n <= to }
	if !inside(l.Shard, 0, 2) || !inside(l.Account, 0, 5) || !inside(l.Asset, 0, 2) {
		return impl.ErrRange
	}
	if !inside(l.Amount, -1000000000000, 1000000000000) {
		return impl.ErrRange
	}
	if l.Amount == 0 {
		return impl.ErrForm
	}
	return impl.OK
}

func wantContractFault(c impl.Contract) int64 {
	if c.Id < 1 || c.Id > maxId {
		return impl.ErrRange
	}
	if len(c.Legs) < 2 || len(c.Legs) > 8 {
		return impl.ErrMany
	}
	ahead := map[[3]int64]int{}
	sums := map[int64]int64{}
	for _, l := range c.Legs {
		if code := wantLegFault(l); code != impl.OK {
			return code
		}
		place := [3]int64{l.Shard, l.Account, l.Asset}
		if ahead[place]++; ahead[place] > 1 {
			return impl.ErrTaken
		}
		sums[l.Asset] += l.Amount
	}
	for _, sum := range sums {
		if sum != 0 {
			return impl.ErrForm
		}
	}
	return impl.OK
}

func checkCode(t *testing.T, what string, got, want int64) {
	t.Helper()
	if got != want {
		t.Errorf("%s: code %d, want %d", what, got, want)
	}
}

// checkFaulted holds the answers of all functions that ask the ContractFault
// first against its code: nothing else may stand beside a code.
func checkFaulted(t *testing.T, what string, c impl.Contract, shard, asset, id, code int64) {
	t.Helper()
	if r := impl.ShardsOf(c); r.Code != code || len(r.List) != 0 {
		t.Errorf("%s: ShardsOf %v, want code %d alone", what, r, code)
	}
	if r := impl.LegsAt(c, shard); r.Code != code || len(r.Legs) != 0 {
		t.Errorf("%s: LegsAt %v, want code %d alone", what, r, code)
	}
	if r := impl.SumOf(c, asset); r.Code != code || r.Value != 0 {
		t.Errorf("%s: SumOf %v, want code %d alone", what, r, code)
	}
	if r := impl.ReverseOf(c, id); r.Code != code || r.Contract.Id != 0 || len(r.Contract.Legs) != 0 {
		t.Errorf("%s: ReverseOf %v, want code %d alone", what, r, code)
	}
}
