package tests

import (
	"reflect"
	"slices"
	"testing"

	"loop.example/g00203/impl"
)

// checkClashFree asks of a grant that it is held, in the mode that was wanted
// or a greater one, and clashes with nothing else.
func checkClashFree(t *testing.T, before impl.Locks, c lockCall, after impl.Locks) {
	t.Helper()
	found := 0
	for _, l := range after.Held {
		if l.Key == c.key && l.Holder == c.tx && l.Mode >= c.mode {
			found++
		}
		if wantClash(l, lock(c.key, c.tx, c.mode)) {
			t.Fatalf("%v, %v: granted against %v", before, c, l)
		}
	}
	if found != 1 {
		t.Fatalf("%v, %v: granted, but held %d times: %v", before, c, found, after)
	}
}

// checkWounded asks that only younger ones that are not pinned are taken
// locks away, and these all.
func checkWounded(t *testing.T, before impl.Locks, c lockCall, r impl.LocksResult) {
	t.Helper()
	for i, tx := range r.Wounded {
		if tx <= c.tx || slices.Contains(before.Pinned, tx) || i > 0 && r.Wounded[i-1] >= tx {
			t.Fatalf("%v, %v: wounded %v", before, c, r.Wounded)
		}
		if _, waits := waitOf(r.Locks, tx); waits || len(heldBy(r.Locks, tx)) > 0 {
			t.Fatalf("%v, %v: %d is wounded and has something: %v", before, c, tx, r.Locks)
		}
		if !slices.ContainsFunc(heldBy(before, tx), func(l impl.Lock) bool { return wantClash(l, lock(c.key, c.tx, c.mode)) }) {
			t.Fatalf("%v, %v: %d is wounded for nothing", before, c, tx)
		}
	}
	for _, l := range before.Held {
		if slices.Contains(r.Wounded, l.Holder) {
			continue
		}
		if !slices.ContainsFunc(r.Locks.Held, func(h impl.Lock) bool { return h.Key == l.Key && h.Holder == l.Holder && h.Mode >= l.Mode }) {
			t.Fatalf("%v, %v: %v is gone, wounded %v", before, c, l, r.Wounded)
		}
	}
	if !slices.Equal(before.Pinned, r.Locks.Pinned) {
		t.Fatalf("%v, %v: pinned %v", before, c, r.Locks.Pinned)
	}
}

// checkLockStep asks promise 8 of one call, and that it tells what the want
// functions tell.
func checkLockStep(t *testing.T, before impl.Locks, c lockCall) impl.LocksResult {
	t.Helper()
	r := c.run(before)
	checkLocksResult(t, "a step", r, c.want(before))
	if t.Failed() {
		t.Fatalf("%v, %v", before, c)
	}
	if r.Code != impl.OK {
		return r
	}
	// What is let in may be too many, which no code keeps off.
	if code := impl.LocksFault(r.Locks); code != impl.OK && len(r.Locks.Held) <= impl.MaxLocks {
		t.Fatalf("%v, %v: fault %d of %v", before, c, code, r.Locks)
	}
	if r.Granted {
		checkClashFree(t, before, c, r.Locks)
	}
	if c.mode != 0 {
		checkWounded(t, before, c, r)
	}
	return r
}

// idle are those that hold something and do not wait.
func idle(table impl.Locks) []int64 {
	var list []int64
	for _, l := range table.Held {
		if _, waits := waitOf(table, l.Holder); !waits && !slices.Contains(list, l.Holder) {
			list = append(list, l.Holder)
		}
	}
	slices.Sort(list)
	return list
}

// checkDrains releases those that hold something and do not wait, one behind
// the other, until nobody waits.
func checkDrains(t *testing.T, table impl.Locks, pick func(list []int64) int64) {
	t.Helper()
	left := table
	for steps := 0; len(left.Waits) > 0; steps++ {
		list := idle(left)
		if len(list) == 0 || steps > 2*impl.MaxLocks {
			t.Fatalf("%v: %v wait for ever", table, left.Waits)
		}
		r := impl.ReleaseLocks(left, pick(list))
		if r.Code != impl.OK {
			t.Fatalf("%v released: code %d", left, r.Code)
		}
		left = r.Locks
	}
}

func checkDrainsAnyhow(t *testing.T, d *dice, table impl.Locks) {
	t.Helper()
	checkDrains(t, table, func(list []int64) int64 { return list[0] })
	checkDrains(t, table, func(list []int64) int64 { return list[len(list)-1] })
	checkDrains(t, table, func(list []int64) int64 { return list[d.below(int64(len(list)))] })
}

// Promise 8, for every table that some transactions can make, and every call.
func TestEveryTableOfAFewLocks(t *testing.T) {
	d := dice(92)
	worlds := []struct {
		calls []lockCall
		least int
	}{
		{lockCalls(4, "k"), 500},
		{lockCalls(3, "j", "k"), 1000},
	}
	for _, w := range worlds {
		tables := everyTable(w.calls)
		waiting := 0
		for _, table := range tables {
			for _, c := range w.calls {
				checkLockStep(t, table, c)
			}
			checkDrainsAnyhow(t, &d, table)
			waiting += len(table.Waits)
		}
		if len(tables) < w.least || waiting < w.least {
			t.Errorf("%d tables, %d waits only", len(tables), waiting)
		}
	}
}

// Promise 8, for walks among more transactions and keys.
func TestNobodyWaitsForEver(t *testing.T) {
	d := dice(93)
	wounded, waited, manyCodes, pinned := 0, 0, 0, 0
	for range 12 {
		for _, w := range lockWorlds {
			table := impl.Locks{}
			for step := range 10 * w.txs {
				c := d.lockCall(w)
				r := checkLockStep(t, table, c)
				if r.Code == impl.ErrMany {
					manyCodes++
				}
				if r.Code != impl.OK {
					continue
				}
				if len(r.Locks.Held) > impl.MaxLocks {
					break
				}
				table = r.Locks
				wounded += len(r.Wounded)
				waited += len(table.Waits)
				pinned += len(table.Pinned)
				if step%8 == 0 && len(table.Held)+len(table.Waits) <= impl.MaxLocks {
					checkDrainsAnyhow(t, &d, table)
				}
			}
		}
	}
	if wounded < 500 || waited < 5000 || manyCodes < 20 || pinned < 1000 {
		t.Errorf("%d wounded, %d waited, %d times too many, %d pinned only", wounded, waited, manyCodes, pinned)
	}
}

// Promise 8: who waits does so as long as one of its blockers has not let go,
// and no longer, but for others that were let in meanwhile.
func TestBlockersHoldUp(t *testing.T) {
	d := dice(94)
	asked := 0
	for _, table := range walkedLocks(&d, 30) {
		if len(table.Held)+len(table.Waits) > impl.MaxLocks {
			continue
		}
		for _, l := range table.Waits {
			r := impl.BlockersOf(table, l.Holder)
			if r.Code != impl.OK || len(r.List) == 0 || slices.Contains(r.List, l.Holder) {
				t.Fatalf("%v: blockers of %v: %v", table, l, r)
			}
			left := table
			for i, tx := range r.List {
				if _, waits := waitOf(left, l.Holder); !waits {
					t.Fatalf("%v: %v does not wait for %v", table, l, r.List[i:])
				}
				left = impl.ReleaseLocks(left, tx).Locks
			}
			if _, waits := waitOf(left, l.Holder); waits {
				checkLetInSince(t, table, left, l)
			}
			asked++
		}
	}
	if asked < 500 {
		t.Errorf("%d asked only", asked)
	}
}

// checkLetInSince: who holds l up now came in while its blockers let go.
func checkLetInSince(t *testing.T, before, after impl.Locks, l impl.Lock) {
	t.Helper()
	for _, tx := range impl.BlockersOf(after, l.Holder).List {
		if len(heldBy(before, tx)) >= len(heldBy(after, tx)) {
			t.Fatalf("%v: %v is held up by %d in %v", before, l, tx, after)
		}
	}
}

// locksArgs are right and wrong ones for the functions of chapter 7.
func locksArgs() []impl.Locks {
	d := dice(95)
	list := []impl.Locks{
		{}, {Held: []impl.Lock{}, Waits: []impl.Lock{}, Pinned: []int64{}},
		{Held: make([]impl.Lock, 3)}, {Waits: make([]impl.Lock, 3)}, {Pinned: make([]int64, 3)},
		{Held: make([]impl.Lock, 61)}, {Waits: make([]impl.Lock, 61)}, {Pinned: make([]int64, 61)},
		locksOf(locks(lock("k", farLow, farHigh)), locks(lock("k", farHigh, farLow)), farLow, farHigh),
		locksOf(locks(alone("k", 1)), locks(lock("k", farLow, farHigh)), farLow, farHigh),
		locksOf(locks(alone("k", 1)), nil, farHigh, farLow),
		locksOf(manyAlone(60, 1), manyShared(60, "aaa", 2), manyPins(60, 100)...),
		locksOf(append(manyAlone(59, 1), alone("k", 5)), manyShared(3, "k", 6)),
		locksOf(locks(alone("j", 5), alone("k", 5)), locks(shared("k", 9), alone("j", 8), alone("j", 7), shared("k", 6))),
		locksOf(locks(shared("k", 4), shared("k", 5), shared("k", 6)), locks(alone("k", 8)), 5),
	}
	list = append(list, walkedLocks(&d, 6)...)
	for range 40 {
		list = append(list, d.anyLocks())
	}
	return list
}

// Promise 1: an answer at every argument that hangs on it alone, in new memory.
func TestLockAnswersAreNewMemory(t *testing.T) {
	for _, table := range locksArgs() {
		checkPure(t, "LocksFault", impl.LocksFault, table)
		checkPure(t, "LocksText", impl.LocksText, table)
		for _, key := range []string{"", "k", "a", "none"} {
			checkPure(t, "HoldersOf", impl.HoldersOf, table, key)
		}
		for _, tx := range []int64{farLow, 0, 1, 2, 5, 99, farHigh} {
			checkPure(t, "ReleaseLocks", impl.ReleaseLocks, table, tx)
			checkPure(t, "PinTx", impl.PinTx, table, tx)
			checkPure(t, "BlockersOf", impl.BlockersOf, table, tx)
			for mode := range int64(3) {
				checkPure(t, "RequestLock", impl.RequestLock, table, tx, "k", mode)
				checkPure(t, "RequestLock", impl.RequestLock, table, tx, "a", mode)
			}
		}
		checkPure(t, "RequestLock", impl.RequestLock, table, int64(2), "", int64(farHigh))
		for _, l := range table.Waits[:min(5, len(table.Waits))] {
			checkPure(t, "BlockersOf", impl.BlockersOf, table, l.Holder)
		}
	}
}

// Locks that lie in one piece of memory, Held with Waits as the room behind
// it, are not changed.
func TestLocksOfOneMemoryAreNotChanged(t *testing.T) {
	d := dice(96)
	for _, own := range walkedLocks(&d, 30) {
		line := slices.Concat(own.Held, own.Waits, locks(alone("z", 77), alone("z", 78)))
		pins := append(slices.Clone(own.Pinned), 7, 8, 9)
		at := len(own.Held)
		table := locksOf(line[:at], line[at:at+len(own.Waits)], pins[:len(own.Pinned)]...)
		lineBefore, pinsBefore := slices.Clone(line), slices.Clone(pins)
		for range 20 {
			c := d.lockCall(lockWorlds[2])
			got := c.run(table)
			if !slices.Equal(line, lineBefore) || !slices.Equal(pins, pinsBefore) {
				t.Fatalf("%v, %v: changed", own, c)
			}
			checkLocksResult(t, "of one memory", got, c.run(own))
		}
		if t.Failed() {
			t.FailNow()
		}
	}
}

// Nil and what is empty are one value: they have one answer.
func TestLocksOfNilAndEmpty(t *testing.T) {
	none := impl.Locks{}
	empty := impl.Locks{Held: make([]impl.Lock, 0, 3), Waits: []impl.Lock{}, Pinned: make([]int64, 0, 2)}
	calls := []func(table impl.Locks) any{
		func(table impl.Locks) any { return impl.LocksFault(table) },
		func(table impl.Locks) any { return impl.RequestLock(table, 1, "k", 1) },
		func(table impl.Locks) any { return impl.RequestLock(table, 0, "k", 1) },
		func(table impl.Locks) any { return impl.ReleaseLocks(table, 1) },
		func(table impl.Locks) any { return impl.PinTx(table, 1) },
		func(table impl.Locks) any { return impl.HoldersOf(table, "k") },
		func(table impl.Locks) any { return impl.BlockersOf(table, 1) },
		func(table impl.Locks) any { return impl.LocksText(table) },
	}
	for i, call := range calls {
		if a, b := call(none), call(empty); !reflect.DeepEqual(a, b) {
			t.Errorf("call %d: nil %v, empty %v", i, a, b)
		}
	}
	// What went leaves the same table as what never was.
	gone := impl.ReleaseLocks(impl.PinTx(impl.RequestLock(none, 5, "k", 2).Locks, 5).Locks, 5)
	if !reflect.DeepEqual(gone, impl.ReleaseLocks(none, 5)) {
		t.Errorf("all gone: %v", gone)
	}
}
