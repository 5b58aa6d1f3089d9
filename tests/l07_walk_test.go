package tests

import (
	"slices"
	"strings"
	"testing"

	"loop.example/g00203/impl"
)

// lockCall is a call that makes a table of another; without a mode it is a
// release, or a pin.
type lockCall struct {
	tx   int64
	key  string
	mode int64
	pins bool
}

func (c lockCall) run(table impl.Locks) impl.LocksResult {
	switch {
	case c.mode != 0:
		return impl.RequestLock(table, c.tx, c.key, c.mode)
	case c.pins:
		return impl.PinTx(table, c.tx)
	}
	return impl.ReleaseLocks(table, c.tx)
}

func (c lockCall) want(table impl.Locks) impl.LocksResult {
	switch {
	case c.mode != 0:
		return wantRequestLock(table, c.tx, c.key, c.mode)
	case c.pins:
		return wantPinTx(table, c.tx)
	}
	return wantReleaseLocks(table, c.tx)
}

// lockCalls are all that transactions from 1 on can do with these keys.
func lockCalls(txs int64, keys ...string) []lockCall {
	var list []lockCall
	for tx := int64(1); tx <= txs; tx++ {
		list = append(list, lockCall{tx: tx}, lockCall{tx: tx, pins: true})
		for _, key := range keys {
			list = append(list, lockCall{tx: tx, key: key, mode: 1}, lockCall{tx: tx, key: key, mode: 2})
		}
	}
	return list
}

// everyTable tells all tables that these calls can make out of an empty one.
func everyTable(calls []lockCall) []impl.Locks {
	list := []impl.Locks{{}}
	seen := map[string]int{"": 1}
	for at := 0; at < len(list); at++ {
		for _, c := range calls {
			r := c.run(list[at])
			name := impl.LocksText(r.Locks).Text
			if r.Code != impl.OK {
				continue
			}
			if seen[name]++; seen[name] == 1 {
				list = append(list, r.Locks)
			}
		}
	}
	return list
}

// lockWorld is what the calls of a walk are thrown from.
type lockWorld struct {
	txs      int64
	keys     []string
	requests int64
}

func (d *dice) lockCall(w lockWorld) lockCall {
	c := lockCall{tx: 1 + d.below(w.txs)}
	switch d.below(w.requests + 2) {
	case 0:
	case 1:
		c.pins = true
	default:
		c.key = w.keys[d.below(int64(len(w.keys)))]
		c.mode = 1 + d.below(2)
	}
	return c
}

// lockWalk tells all tables of a walk out of an empty one; it ends where one
// has more of Held than may be, which no code keeps off.
func (d *dice) lockWalk(w lockWorld, steps int64) []impl.Locks {
	list := []impl.Locks{{}}
	for range steps {
		table := list[len(list)-1]
		r := d.lockCall(w).run(table)
		if len(r.Locks.Held) > impl.MaxLocks {
			break
		}
		if r.Code == impl.OK {
			list = append(list, r.Locks)
		}
	}
	return list
}

// lockWorlds have few and many keys and transactions; in the last two there
// is no room for all of them.
var lockWorlds = []lockWorld{
	{txs: 4, keys: []string{"k"}, requests: 8},
	{txs: 8, keys: []string{"j", "k"}, requests: 12},
	{txs: 12, keys: []string{"\x00", "a", "a\x00", "\xff"}, requests: 16},
	{txs: 100, keys: []string{"a", "b", "c", "d", "e", "f", "g"}, requests: 90},
	{txs: 100, keys: oddKeys, requests: 60},
}

// walkedLocks are tables from the ends of walks, and some from their middles.
func walkedLocks(d *dice, times int) []impl.Locks {
	list := []impl.Locks{{}}
	for range times {
		for _, w := range lockWorlds {
			walk := d.lockWalk(w, 10+d.below(12*w.txs))
			list = append(list, walk[len(walk)-1], walk[d.below(int64(len(walk)))])
		}
	}
	return list
}

// anyLocks throws one that may have faults of every kind.
func (d *dice) anyLocks() impl.Locks {
	w := lockWorlds[d.below(int64(len(lockWorlds)))]
	walk := d.lockWalk(w, 10+d.below(2*w.txs))
	table := cloneLocks(walk[len(walk)-1])
	for range d.below(3) {
		d.spoilLocks(&table, w)
	}
	return table
}

func (d *dice) spoilLocks(table *impl.Locks, w lockWorld) {
	switch d.below(8) {
	case 0, 1, 2:
		table.Held = d.spoiledLocks(table.Held, w)
	case 3, 4, 5:
		table.Waits = d.spoiledLocks(table.Waits, w)
	default:
		table.Pinned = d.spoiledPins(table.Pinned, w)
	}
}

func (d *dice) spoiledLocks(list []impl.Lock, w lockWorld) []impl.Lock {
	own := lock(w.keys[d.below(int64(len(w.keys)))], 1+d.below(w.txs), 1+d.below(2))
	if len(list) == 0 {
		return append(list, own)
	}
	at, other := d.below(int64(len(list))), d.below(int64(len(list)))
	switch d.below(9) {
	case 0:
		list[at].Key = []string{"", strings.Repeat("k", 20), strings.Repeat("k", 21), w.keys[0]}[d.below(4)]
	case 1:
		list[at].Holder = []int64{farLow, -1, 0, 1, maxTx, maxTx + 1, farHigh}[d.below(7)]
	case 2:
		list[at].Mode = []int64{farLow, -1, 0, 3, farHigh}[d.below(5)]
	case 3:
		list[at].Mode = 3 - list[at].Mode
	case 4:
		list[at], list[other] = list[other], list[at]
	case 5:
		list = slices.Insert(list, int(at), list[other])
	case 6:
		list = slices.Delete(list, int(at), int(at)+1)
	case 7:
		list = slices.Insert(list, int(at), own)
	case 8:
		list = append(list, manyShared(int(58+d.below(5))-len(list), "\xff\xff", 500)...)
	}
	return list
}

func (d *dice) spoiledPins(list []int64, w lockWorld) []int64 {
	odd := []int64{farLow, -1, 0, maxTx, maxTx + 1, farHigh, 1 + d.below(w.txs), 1 + d.below(w.txs), 1 + d.below(w.txs)}
	n := odd[d.below(int64(len(odd)))]
	if len(list) == 0 {
		return append(list, n)
	}
	at := int(d.below(int64(len(list))))
	switch d.below(5) {
	case 0:
		list[at] = n
	case 1:
		list = slices.Insert(list, at, n)
	case 2:
		list = slices.Delete(list, at, at+1)
	case 3:
		slices.Reverse(list)
	case 4:
		list = append(list, manyPins(int(58+d.below(5))-len(list), 500)...)
	}
	return list
}

// Chapter 7 told twice, for tables that are thrown: right ones, and such with
// faults of every kind.
func TestLocksThatAreThrown(t *testing.T) {
	d := dice(91)
	told := map[int64]int{}
	txs := []int64{farLow, 0, 1, 2, 3, 5, 8, 40, 99, 150, maxTx, maxTx + 1, farHigh}
	keys := []string{"", "k", "a", "\xff", "none", strings.Repeat("k", 21)}
	tables := walkedLocks(&d, 25)
	for range 1500 {
		tables = append(tables, d.anyLocks())
	}
	for _, table := range tables {
		code := wantLocksFault(table)
		told[code]++
		checkCode(t, "LocksFault", impl.LocksFault(table), code)
		checkText(t, "LocksText", impl.LocksText(table), wantLocksText(table))
		key := keys[d.below(int64(len(keys)))]
		checkNumbers(t, "HoldersOf", impl.HoldersOf(table, key), wantHoldersOf(table, key))
		for range 4 {
			c := lockCall{tx: txs[d.below(int64(len(txs)))], key: keys[d.below(int64(len(keys)))], mode: d.below(4), pins: d.below(2) == 0}
			checkLocksResult(t, "a call", c.run(table), c.want(table))
			checkNumbers(t, "BlockersOf", impl.BlockersOf(table, c.tx), wantBlockersOf(table, c.tx))
			checkLocksResult(t, "RequestLock", impl.RequestLock(table, c.tx, c.key, c.mode), wantRequestLock(table, c.tx, c.key, c.mode))
		}
		if t.Failed() {
			t.Fatalf("of %v", table)
		}
	}
	for _, code := range []int64{impl.OK, impl.ErrMany, impl.ErrForm, impl.ErrRange, impl.ErrTaken} {
		if told[code] < 60 {
			t.Errorf("code %d %d times only", code, told[code])
		}
	}
}
