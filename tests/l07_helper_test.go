package tests

import (
	"slices"
	"strconv"
	"strings"
	"testing"

	"loop.example/g00203/impl"
)

const maxTx = 1000000000

func shared(key string, holder int64) impl.Lock {
	return impl.Lock{Key: key, Holder: holder, Mode: impl.ModeShared}
}

func alone(key string, holder int64) impl.Lock {
	return impl.Lock{Key: key, Holder: holder, Mode: impl.ModeAlone}
}

func lock(key string, holder, mode int64) impl.Lock {
	return impl.Lock{Key: key, Holder: holder, Mode: mode}
}

func locks(list ...impl.Lock) []impl.Lock {
	return list
}

func locksOf(held, waits []impl.Lock, pinned ...int64) impl.Locks {
	return impl.Locks{Held: held, Waits: waits, Pinned: pinned}
}

// manyAlone are that many locks of one transaction; their keys have three
// letters.
func manyAlone(n int, holder int64) []impl.Lock {
	var list []impl.Lock
	for _, r := range manyRows(n, 1) {
		list = append(list, alone(r.Key, holder))
	}
	return list
}

// manyShared are that many transactions, from one on, with the same key.
func manyShared(n int, key string, from int64) []impl.Lock {
	var list []impl.Lock
	for i := range n {
		list = append(list, shared(key, from+int64(i)))
	}
	return list
}

func manyPins(n int, from int64) []int64 {
	var list []int64
	for i := range n {
		list = append(list, from+int64(i))
	}
	return list
}

func cloneLocks(t impl.Locks) impl.Locks {
	return impl.Locks{Held: slices.Clone(t.Held), Waits: slices.Clone(t.Waits), Pinned: slices.Clone(t.Pinned)}
}

func sameLocks(a, b impl.Locks) bool {
	return slices.Equal(a.Held, b.Held) && slices.Equal(a.Waits, b.Waits) && slices.Equal(a.Pinned, b.Pinned)
}

// The want functions tell chapter 7 once more.
func wantLockFault(l impl.Lock) int64 {
	if n := len(l.Key); n == 0 || n > 20 {
		return impl.ErrForm
	}
	if l.Holder <= 0 || l.Holder > 1000000000 || l.Mode != 1 && l.Mode != 2 {
		return impl.ErrRange
	}
	return impl.OK
}

func wantClash(a, b impl.Lock) bool {
	if a.Key != b.Key || a.Holder == b.Holder {
		return false
	}
	return a.Mode != 1 || b.Mode != 1
}

// wantBlockers may tell a transaction twice, and in any order.
func wantBlockers(t impl.Locks, l impl.Lock) []int64 {
	var list []int64
	for _, h := range t.Held {
		if wantClash(h, l) {
			list = append(list, h.Holder)
		}
	}
	for _, w := range t.Waits {
		if w.Holder < l.Holder && wantClash(w, l) {
			list = append(list, w.Holder)
		}
	}
	return list
}

// wantWeaker are those whom l would take all locks away.
func wantWeaker(t impl.Locks, l impl.Lock) []int64 {
	var list []int64
	for _, h := range t.Held {
		if wantClash(h, l) && h.Holder > l.Holder && !slices.Contains(t.Pinned, h.Holder) {
			list = append(list, h.Holder)
		}
	}
	slices.Sort(list)
	return list
}

func wantHeldFault(held []impl.Lock) int64 {
	for i, l := range held {
		if code := wantLockFault(l); code != impl.OK {
			return code
		}
		if i == 0 {
			continue
		}
		if ahead := held[i-1]; ahead.Key > l.Key || ahead.Key == l.Key && ahead.Holder >= l.Holder {
			return impl.ErrForm
		}
	}
	for i, a := range held {
		for _, b := range held[i:] {
			if wantClash(a, b) {
				return impl.ErrTaken
			}
		}
	}
	return impl.OK
}

func wantWaitsFault(t impl.Locks) int64 {
	ahead := map[int64]int{}
	for _, l := range t.Waits {
		if code := wantLockFault(l); code != impl.OK {
			return code
		}
		if ahead[l.Holder]++; ahead[l.Holder] > 1 || slices.Contains(t.Pinned, l.Holder) {
			return impl.ErrTaken
		}
		if len(wantBlockers(t, l)) == 0 || len(wantWeaker(t, l)) > 0 {
			return impl.ErrForm
		}
	}
	return impl.OK
}

func wantLocksFault(t impl.Locks) int64 {
	if len(t.Held) > 60 || len(t.Waits) > 60 || len(t.Pinned) > 60 {
		return impl.ErrMany
	}
	if code := wantHeldFault(t.Held); code != impl.OK {
		return code
	}
	if code := wantWaitsFault(t); code != impl.OK {
		return code
	}
	last := int64(0)
	for _, tx := range t.Pinned {
		if tx < 1 || tx > 1000000000 {
			return impl.ErrRange
		}
		if tx <= last {
			return impl.ErrForm
		}
		last = tx
	}
	return impl.OK
}

func waitOf(t impl.Locks, tx int64) (impl.Lock, bool) {
	for _, l := range t.Waits {
		if l.Holder == tx {
			return l, true
		}
	}
	return impl.Lock{}, false
}

func heldBy(t impl.Locks, tx int64) []impl.Lock {
	var list []impl.Lock
	for _, l := range t.Held {
		if l.Holder == tx {
			list = append(list, l)
		}
	}
	return list
}

func wantGrant(t *impl.Locks, l impl.Lock) {
	for i, h := range t.Held {
		if h.Key == l.Key && h.Holder == l.Holder {
			if h.Mode == 1 {
				t.Held[i].Mode = l.Mode
			}
			return
		}
	}
	t.Held = append(t.Held, l)
	slices.SortFunc(t.Held, func(a, b impl.Lock) int {
		if a.Key < b.Key || a.Key == b.Key && a.Holder < b.Holder {
			return -1
		}
		return 1
	})
}

func wantTakeAway(t *impl.Locks, tx int64) {
	of := func(l impl.Lock) bool { return l.Holder == tx }
	t.Held = slices.DeleteFunc(t.Held, of)
	t.Waits = slices.DeleteFunc(t.Waits, of)
}

func wantLetIn(t *impl.Locks) {
	for i := 0; i < len(t.Waits); {
		l := t.Waits[i]
		if len(wantBlockers(*t, l)) > 0 {
			i++
			continue
		}
		t.Waits = slices.Delete(t.Waits, i, i+1)
		wantGrant(t, l)
		i = 0
	}
}

func wantRequestLock(t impl.Locks, tx int64, key string, mode int64) impl.LocksResult {
	l := lock(key, tx, mode)
	for _, code := range []int64{wantLocksFault(t), wantLockFault(l)} {
		if code != impl.OK {
			return impl.LocksResult{Code: code}
		}
	}
	if _, waits := waitOf(t, tx); waits || slices.Contains(t.Pinned, tx) {
		return impl.LocksResult{Code: impl.ErrBusy}
	}
	r := impl.LocksResult{Wounded: wantWeaker(t, l), Locks: cloneLocks(t)}
	for _, other := range r.Wounded {
		wantTakeAway(&r.Locks, other)
	}
	if r.Granted = len(wantBlockers(r.Locks, l)) == 0; r.Granted {
		wantGrant(&r.Locks, l)
	} else {
		r.Locks.Waits = append(r.Locks.Waits, l)
	}
	if len(r.Locks.Held) > 60 || len(r.Locks.Waits) > 60 {
		return impl.LocksResult{Code: impl.ErrMany}
	}
	if len(r.Wounded) > 0 {
		wantLetIn(&r.Locks)
	}
	return r
}

func wantReleaseLocks(t impl.Locks, tx int64) impl.LocksResult {
	if code := wantLocksFault(t); code != impl.OK {
		return impl.LocksResult{Code: code}
	}
	if tx < 1 || tx > 1000000000 {
		return impl.LocksResult{Code: impl.ErrRange}
	}
	after := cloneLocks(t)
	wantTakeAway(&after, tx)
	after.Pinned = slices.DeleteFunc(after.Pinned, func(other int64) bool { return other == tx })
	wantLetIn(&after)
	return impl.LocksResult{Locks: after}
}

func wantPinTx(t impl.Locks, tx int64) impl.LocksResult {
	if code := wantLocksFault(t); code != impl.OK {
		return impl.LocksResult{Code: code}
	}
	if tx < 1 || tx > 1000000000 {
		return impl.LocksResult{Code: impl.ErrRange}
	}
	if _, waits := waitOf(t, tx); waits {
		return impl.LocksResult{Code: impl.ErrBusy}
	}
	after := cloneLocks(t)
	after.Pinned = append(after.Pinned, tx)
	slices.Sort(after.Pinned)
	after.Pinned = slices.Compact(after.Pinned)
	if len(after.Pinned) > 60 {
		return impl.LocksResult{Code: impl.ErrMany}
	}
	return impl.LocksResult{Locks: after}
}

func wantHoldersOf(t impl.Locks, key string) impl.IntsResult {
	if code := wantLocksFault(t); code != impl.OK {
		return impl.IntsResult{Code: code}
	}
	var list []int64
	for _, l := range t.Held {
		if l.Key == key {
			list = append(list, l.Holder)
		}
	}
	slices.Sort(list)
	return impl.IntsResult{List: list}
}

func wantBlockersOf(t impl.Locks, tx int64) impl.IntsResult {
	if code := wantLocksFault(t); code != impl.OK {
		return impl.IntsResult{Code: code}
	}
	l, waits := waitOf(t, tx)
	if !waits {
		return impl.IntsResult{Code: impl.ErrNone}
	}
	list := wantBlockers(t, l)
	slices.Sort(list)
	return impl.IntsResult{List: slices.Compact(list)}
}

func wantLocksText(t impl.Locks) impl.TextResult {
	if code := wantLocksFault(t); code != impl.OK {
		return impl.TextResult{Code: code}
	}
	var text strings.Builder
	number := func(n int64) string { return strconv.FormatInt(n, 10) }
	for _, l := range t.Held {
		text.WriteString("held " + l.Key + " " + number(l.Holder) + " " + number(l.Mode) + "\n")
	}
	for _, l := range t.Waits {
		text.WriteString("waits " + l.Key + " " + number(l.Holder) + " " + number(l.Mode) + "\n")
	}
	for _, tx := range t.Pinned {
		text.WriteString("pin " + number(tx) + "\n")
	}
	return impl.TextResult{Text: text.String()}
}

func checkLocksResult(t *testing.T, what string, got, want impl.LocksResult) {
	t.Helper()
	if got.Code != want.Code || got.Granted != want.Granted || !slices.Equal(got.Wounded, want.Wounded) || !sameLocks(got.Locks, want.Locks) {
		t.Errorf("%s:\ngot  %v\nwant %v", what, got, want)
	}
}

func checkLocksCode(t *testing.T, what string, got impl.LocksResult, code int64) {
	t.Helper()
	checkLocksResult(t, what, got, impl.LocksResult{Code: code})
}

// checkGranted and checkWaiting tell what a request answers without a code.
func checkGranted(t *testing.T, what string, got impl.LocksResult, want impl.Locks, wounded ...int64) {
	t.Helper()
	checkLocksResult(t, what, got, impl.LocksResult{Granted: true, Wounded: wounded, Locks: want})
	checkCode(t, what+": LocksFault", impl.LocksFault(got.Locks), impl.OK)
}

func checkWaiting(t *testing.T, what string, got impl.LocksResult, want impl.Locks, wounded ...int64) {
	t.Helper()
	checkLocksResult(t, what, got, impl.LocksResult{Wounded: wounded, Locks: want})
	checkCode(t, what+": LocksFault", impl.LocksFault(got.Locks), impl.OK)
}

// checkTable is of releases and pins: they grant nothing to who asked, and
// wound nobody.
func checkTable(t *testing.T, what string, got impl.LocksResult, want impl.Locks) {
	t.Helper()
	checkWaiting(t, what, got, want)
}

func checkNumbers(t *testing.T, what string, got, want impl.IntsResult) {
	t.Helper()
	if got.Code != want.Code || !slices.Equal(got.List, want.List) {
		t.Errorf("%s: %v, want %v", what, got, want)
	}
}

// checkLocksFaulted holds all functions that ask the LocksFault first against
// its code, whatever else they are given.
func checkLocksFaulted(t *testing.T, what string, table impl.Locks, code int64) {
	t.Helper()
	checkCode(t, what+": LocksFault", impl.LocksFault(table), code)
	for _, tx := range []int64{farLow, 0, 1, 3, 5, 101, maxTx + 1, farHigh} {
		for _, key := range []string{"", "k", strings.Repeat("k", 21)} {
			for mode := range int64(4) {
				checkLocksCode(t, what+": RequestLock", impl.RequestLock(table, tx, key, mode), code)
			}
			checkNumbers(t, what+": HoldersOf", impl.HoldersOf(table, key), impl.IntsResult{Code: code})
		}
		checkLocksCode(t, what+": ReleaseLocks", impl.ReleaseLocks(table, tx), code)
		checkLocksCode(t, what+": PinTx", impl.PinTx(table, tx), code)
		checkNumbers(t, what+": BlockersOf", impl.BlockersOf(table, tx), impl.IntsResult{Code: code})
	}
	checkText(t, what+": LocksText", impl.LocksText(table), impl.TextResult{Code: code})
}
