package tests

import (
	"reflect"
	"slices"
	"testing"

	"loop.example/g00203/impl"
)

// Promise 2, its first half.
func TestTurnedRoundTwice(t *testing.T) {
	d := dice(2)
	for range 2000 {
		c := d.rightContract()
		once := impl.ReverseOf(c, 1+d.below(maxId))
		if once.Code != impl.OK || impl.ContractFault(once.Contract) != impl.OK {
			t.Fatalf("%v turned round: %v", c, once)
		}
		for i, l := range once.Contract.Legs {
			if l.Amount+c.Legs[i].Amount != 0 {
				t.Fatalf("%v turned round: %v", c, once)
			}
		}
		twice := impl.ReverseOf(once.Contract, c.Id)
		if twice.Code != impl.OK || !impl.SameContract(twice.Contract, c) || !sameContracts(twice.Contract, c) {
			t.Fatalf("%v turned round twice: %v", c, twice)
		}
	}
}

// Promise 2, its second half.
func TestLegsAtAllShardsAreAllLegs(t *testing.T) {
	d := dice(3)
	for range 2000 {
		c := d.rightContract()
		shards := impl.ShardsOf(c)
		if shards.Code != impl.OK {
			t.Fatalf("ShardsOf(%v) = %v", c, shards)
		}
		left := slices.Clone(c.Legs)
		for _, shard := range shards.List {
			r := impl.LegsAt(c, shard)
			if r.Code != impl.OK || len(r.Legs) == 0 {
				t.Fatalf("LegsAt(%v, %d) = %v", c, shard, r)
			}
			left = withoutInOrder(t, left, r.Legs)
		}
		if len(left) != 0 {
			t.Fatalf("%v: no shard of %v has %v", c, shards.List, left)
		}
	}
}

// withoutInOrder takes legs away from list, each of them behind the one ahead.
func withoutInOrder(t *testing.T, list, legs []impl.Leg) []impl.Leg {
	t.Helper()
	from := 0
	for _, l := range legs {
		at := slices.Index(list[from:], l)
		if at < 0 {
			t.Fatalf("%v is no leg, or not in its order: %v of %v", l, legs, list)
		}
		from += at
		list = slices.Delete(list, from, from+1)
	}
	return list
}

// contractCalls are all functions of chapter 1 that take a contract; each
// answer comes with all that can be written into it.
var contractCalls = []struct {
	name string
	call func(c impl.Contract, n int64) (answer any, spoil func())
}{
	{"LegFault", func(c impl.Contract, n int64) (any, func()) {
		var codes []int64
		for _, l := range c.Legs {
			codes = append(codes, impl.LegFault(l))
		}
		return codes, func() {}
	}},
	{"ContractFault", func(c impl.Contract, n int64) (any, func()) {
		return impl.ContractFault(c), func() {}
	}},
	{"ShardsOf", func(c impl.Contract, n int64) (any, func()) {
		r := impl.ShardsOf(c)
		return r, func() { spoilAll(r.List, -77) }
	}},
	{"LegsAt", func(c impl.Contract, n int64) (any, func()) {
		r := impl.LegsAt(c, n)
		return r, func() { spoilAll(r.Legs, leg(-77, -77, -77, -77)) }
	}},
	{"SumOf", func(c impl.Contract, n int64) (any, func()) {
		return impl.SumOf(c, n), func() {}
	}},
	{"ReverseOf", func(c impl.Contract, n int64) (any, func()) {
		r := impl.ReverseOf(c, n)
		return r, func() { spoilAll(r.Contract.Legs, leg(-77, -77, -77, -77)) }
	}},
	{"SameContract", func(c impl.Contract, n int64) (any, func()) {
		other := pair(n)
		told := [3]bool{impl.SameContract(c, other), impl.SameContract(other, c), impl.SameContract(c, c)}
		return []any{told, other}, func() {}
	}},
}

// spoilAll writes over all that a list has, and over the room behind it.
func spoilAll[T any](list []T, with T) {
	list = list[:cap(list)]
	for i := range list {
		list[i] = with
	}
}

// roomy is c with room behind its legs, so that a write there is seen, too.
func roomy(c impl.Contract) (impl.Contract, []impl.Leg) {
	whole := append(slices.Clone(c.Legs), leg(-1, -2, -3, -4), leg(-5, -6, -7, -8))
	return impl.Contract{Id: c.Id, Legs: whole[:len(c.Legs)]}, whole
}

// Promise 1: an answer at every argument that hangs on it alone, in new memory.
func TestContractAnswersAreNewMemory(t *testing.T) {
	d := dice(4)
	numbers := []int64{farLow, -1, 0, 1, 2, 3, maxId, maxId + 1, farHigh}
	given := []impl.Contract{{}, {Id: 1, Legs: []impl.Leg{}}, pair(1), pair(farHigh), chain(2, 8), chain(2, 18)}
	for range 300 {
		given = append(given, d.rightContract(), d.anyContract())
	}
	for _, c := range given {
		for _, n := range numbers {
			for _, f := range contractCalls {
				checkNewMemory(t, f.name, f.call, c, n)
			}
		}
	}
}

func checkNewMemory(t *testing.T, name string, call func(impl.Contract, int64) (any, func()), c impl.Contract, n int64) {
	t.Helper()
	arg, whole := roomy(c)
	before := slices.Clone(whole)
	first, spoilFirst := call(arg, n)
	second, spoilSecond := call(arg, n)
	if !slices.Equal(whole, before) || arg.Id != c.Id {
		t.Fatalf("%s(%v, %d) changed its argument: %v", name, c, n, whole)
	}
	if !reflect.DeepEqual(first, second) {
		t.Fatalf("%s(%v, %d) answers %v, then %v", name, c, n, first, second)
	}
	third, _ := call(cloneContract(c), n)
	spoilFirst()
	if !slices.Equal(whole, before) {
		t.Fatalf("%s(%v, %d): what is written into the answer changes the argument", name, c, n)
	}
	if !reflect.DeepEqual(second, third) {
		t.Fatalf("%s(%v, %d): two answers share memory, or hang on more than the argument: %v, %v", name, c, n, second, third)
	}
	spoilSecond()
	spoilAll(whole, leg(-9, -9, -9, -9))
	if again, _ := call(cloneContract(c), n); !reflect.DeepEqual(third, again) {
		t.Fatalf("%s(%v, %d) answers %v, then %v", name, c, n, third, again)
	}
}

// An answer does not change when the argument is written into behind it.
func TestContractAnswersOutlastTheArgument(t *testing.T) {
	c := contract(1, leg(0, 0, 0, -5), leg(1, 0, 0, 5), leg(0, 1, 1, 2), leg(0, 2, 1, -2))
	kept := cloneContract(c)
	shards, legs, turned := impl.ShardsOf(c), impl.LegsAt(c, 0), impl.ReverseOf(c, 2)
	spoilAll(c.Legs, leg(2, 2, 2, 2))
	if !slices.Equal(shards.List, []int64{0, 1}) {
		t.Errorf("ShardsOf: %v", shards)
	}
	if !sameLegs(legs.Legs, []impl.Leg{kept.Legs[0], kept.Legs[2], kept.Legs[3]}) {
		t.Errorf("LegsAt: %v", legs)
	}
	if again := impl.ReverseOf(kept, 2); !sameContracts(turned.Contract, again.Contract) {
		t.Errorf("ReverseOf: %v", turned)
	}
}
