package impl

import "slices"

const OK = 0
const ErrForm = 1
const ErrMany = 2
const ErrRange = 3
const ErrNone = 4
const ErrText = 5
const ErrShort = 6
const ErrTaken = 7
const ErrBusy = 8
const ErrDown = 9
const MaxAmount = 1000000000000
const MaxShards = 3
const MaxLegs = 8
const MaxAccounts = 6
const MaxAssets = 3

type Leg struct {
	Shard   int64
	Account int64
	Asset   int64
	Amount  int64
}
type Contract struct {
	Id   int64
	Legs []Leg
}
type IntResult struct {
	Code  int64
	Value int64
}
type IntsResult struct {
	Code int64
	List []int64
}
type LegsResult struct {
	Code int64
	Legs []Leg
}
type ContractResult struct {
	Code     int64
	Contract Contract
}

// maxId is the greatest number that a contract may have.
const maxId = 1000000000

// The places of the two sums of an asset: they are kept apart because a
// contract is judged by both and told by what is given alone.
const (
	sumGiven = iota
	sumTaken
	sumPlaces
)

func LegFault(l Leg) int64 {
	if !isPlace(l) || !within(l.Amount, -MaxAmount, MaxAmount) {
		return ErrRange
	}
	if l.Amount == 0 {
		return ErrForm
	}
	return OK
}

func ContractFault(c Contract) int64 {
	if !isId(c.Id) {
		return ErrRange
	}
	if len(c.Legs) < 2 || len(c.Legs) > MaxLegs {
		return ErrMany
	}
	for i, l := range c.Legs {
		if code := LegFault(l); code != OK {
			return code
		}
		if hasPlaceOf(c.Legs[:i], l) {
			return ErrTaken
		}
	}
	return sumsFault(c.Legs)
}

func ShardsOf(c Contract) IntsResult {
	if code := ContractFault(c); code != OK {
		return IntsResult{Code: code}
	}
	var list []int64
	for shard := int64(0); shard < MaxShards; shard++ {
		if len(legsOn(c.Legs, shard)) > 0 {
			list = append(list, shard)
		}
	}
	return IntsResult{List: list}
}

func LegsAt(c Contract, shard int64) LegsResult {
	if code := ContractFault(c); code != OK {
		return LegsResult{Code: code}
	}
	if !isShard(shard) {
		return LegsResult{Code: ErrRange}
	}
	return LegsResult{Legs: legsOn(c.Legs, shard)}
}

func SumOf(c Contract, asset int64) IntResult {
	if code := ContractFault(c); code != OK {
		return IntResult{Code: code}
	}
	if !isAsset(asset) {
		return IntResult{Code: ErrRange}
	}
	return IntResult{Value: sumsOf(c.Legs, asset)[sumGiven]}
}

func ReverseOf(c Contract, id int64) ContractResult {
	if code := ContractFault(c); code != OK {
		return ContractResult{Code: code}
	}
	if !isId(id) {
		return ContractResult{Code: ErrRange}
	}
	return ContractResult{Contract: Contract{Id: id, Legs: turnedRound(c.Legs)}}
}

func SameContract(a Contract, b Contract) bool {
	return a.Id == b.Id && slices.Equal(a.Legs, b.Legs)
}

func within(n int64, low int64, high int64) bool {
	return low <= n && n <= high
}

func isId(id int64) bool {
	return within(id, 1, maxId)
}

func isShard(shard int64) bool {
	return within(shard, 0, MaxShards-1)
}

func isAccount(account int64) bool {
	return within(account, 0, MaxAccounts-1)
}

func isAsset(asset int64) bool {
	return within(asset, 0, MaxAssets-1)
}

func isPlace(l Leg) bool {
	return isShard(l.Shard) && isAccount(l.Account) && isAsset(l.Asset)
}

// placeOf leaves the amount out, so that two legs of one shard, account and
// asset are one struct, whatever they move.
func placeOf(l Leg) Leg {
	l.Amount = 0
	return l
}

func hasPlaceOf(legs []Leg, l Leg) bool {
	for _, other := range legs {
		if placeOf(other) == placeOf(l) {
			return true
		}
	}
	return false
}

// sumsOf is asked only of legs without a fault: MaxLegs amounts of at most
// MaxAmount cannot overflow.
func sumsOf(legs []Leg, asset int64) [sumPlaces]int64 {
	var sums [sumPlaces]int64
	for _, l := range legs {
		switch {
		case l.Asset != asset:
		case l.Amount > 0:
			sums[sumGiven] += l.Amount
		default:
			sums[sumTaken] += l.Amount
		}
	}
	return sums
}

func sumsFault(legs []Leg) int64 {
	for asset := int64(0); asset < MaxAssets; asset++ {
		sums := sumsOf(legs, asset)
		if sums[sumGiven]+sums[sumTaken] != 0 {
			return ErrForm
		}
	}
	return OK
}

func legsOn(legs []Leg, shard int64) []Leg {
	var list []Leg
	for _, l := range legs {
		if l.Shard == shard {
			list = append(list, l)
		}
	}
	return list
}

func turnedRound(legs []Leg) []Leg {
	list := make([]Leg, len(legs))
	for i, l := range legs {
		l.Amount = -l.Amount
		list[i] = l
	}
	return list
}
