package tests

import (
	"slices"
	"strings"
	"testing"

	"loop.example/g00203/impl"
)

func TestLockConstants(t *testing.T) {
	if impl.ModeShared != 1 || impl.ModeAlone != 2 || impl.MaxLocks != 60 {
		t.Errorf("ModeShared %d, ModeAlone %d, MaxLocks %d", impl.ModeShared, impl.ModeAlone, impl.MaxLocks)
	}
}

// lockCases are locks by themselves; they have the same codes in Held, in
// Waits, and where they are asked for.
var lockCases = []struct {
	name string
	l    impl.Lock
	want int64
}{
	{"zero value", impl.Lock{}, impl.ErrForm},
	{"key of 0 bytes", alone("", 5), impl.ErrForm},
	{"key of 1 byte", alone("a", 5), impl.OK},
	{"key of 20 bytes", alone(strings.Repeat("k", 20), 5), impl.OK},
	{"key of 21 bytes", alone(strings.Repeat("k", 21), 5), impl.ErrForm},
	{"key of 10 runes of 2 bytes", alone(strings.Repeat("ü", 10), 5), impl.OK},
	{"key of 11 runes of 2 bytes", alone(strings.Repeat("ü", 11), 5), impl.ErrForm},
	{"key of a nought", alone("\x00", 5), impl.OK},
	{"key that is no text", alone("\xff\xfe", 5), impl.OK},
	{"key of a blank", alone(" ", 5), impl.OK},
	{"holder far below", alone("a", farLow), impl.ErrRange},
	{"holder -1", alone("a", -1), impl.ErrRange},
	{"holder 0", alone("a", 0), impl.ErrRange},
	{"holder 2", alone("a", 2), impl.OK},
	{"holder 10^9", alone("a", maxTx), impl.OK},
	{"holder 10^9 and 1", alone("a", maxTx+1), impl.ErrRange},
	{"holder far above", alone("a", farHigh), impl.ErrRange},
	{"mode far below", lock("a", 5, farLow), impl.ErrRange},
	{"mode -1", lock("a", 5, -1), impl.ErrRange},
	{"mode 0", lock("a", 5, 0), impl.ErrRange},
	{"mode 1", lock("a", 5, 1), impl.OK},
	{"mode 2", lock("a", 5, 2), impl.OK},
	{"mode 3", lock("a", 5, 3), impl.ErrRange},
	{"mode far above", lock("a", 5, farHigh), impl.ErrRange},
	{"no key, holder 0", alone("", 0), impl.ErrForm},
	{"no key, mode 3", lock("", 5, 3), impl.ErrForm},
	{"a long key, holder 0, mode 0", lock(strings.Repeat("k", 21), 0, 0), impl.ErrForm},
	{"holder 0, mode 3", lock("a", 0, 3), impl.ErrRange},
}

func TestLocksBySelf(t *testing.T) {
	for _, c := range lockCases {
		checkCode(t, c.name+", held", impl.LocksFault(locksOf(locks(c.l), nil)), c.want)
		// What blocks the wait is held by 1, the elder of all of them.
		blocker := alone(c.l.Key, 1)
		if c.l.Key == "" || len(c.l.Key) > 20 {
			blocker = alone("a", 1)
		}
		checkCode(t, c.name+", waits", impl.LocksFault(locksOf(locks(blocker), locks(c.l))), c.want)
		r := impl.RequestLock(impl.Locks{}, c.l.Holder, c.l.Key, c.l.Mode)
		if c.want != impl.OK {
			checkLocksCode(t, c.name+", asked for", r, c.want)
		} else {
			checkGranted(t, c.name+", asked for", r, locksOf(locks(c.l), nil))
		}
	}
	checkCode(t, "holder 1, held", impl.LocksFault(locksOf(locks(alone("a", 1)), nil)), impl.OK)
	checkCode(t, "holder 1, waits", impl.LocksFault(locksOf(locks(alone("a", 2)), locks(alone("a", 1)), 2)), impl.OK)
	checkGranted(t, "holder 1, asked for", impl.RequestLock(impl.Locks{}, 1, "a", 1), locksOf(locks(shared("a", 1)), nil))
}

func TestHeldFaults(t *testing.T) {
	cases := []struct {
		name string
		held []impl.Lock
		want int64
	}{
		{"nil", nil, impl.OK},
		{"empty", []impl.Lock{}, impl.OK},
		{"keys that rise", locks(alone("a", 9), alone("b", 3), alone("c", 9)), impl.OK},
		{"keys that fall", locks(alone("b", 3), alone("a", 9)), impl.ErrForm},
		{"a key that comes again", locks(shared("a", 1), shared("b", 1), shared("a", 2)), impl.ErrForm},
		{"holders that rise", locks(shared("a", 1), shared("a", 2), shared("a", maxTx)), impl.OK},
		{"holders that fall", locks(shared("a", 2), shared("a", 1)), impl.ErrForm},
		{"two that are alike", locks(shared("a", 2), shared("a", 2)), impl.ErrForm},
		{"two of one holder and key", locks(shared("a", 2), alone("a", 2)), impl.ErrForm},
		{"a beginning ahead", locks(alone("a", 2), alone("a\x00", 1), alone("aa", 1)), impl.OK},
		{"a beginning behind", locks(alone("aa", 1), alone("a", 2)), impl.ErrForm},
		{"bytes above 127 behind", locks(alone("z", 2), alone("\x80", 1), alone("\xff", 1)), impl.OK},
		{"bytes above 127 ahead", locks(alone("\x80", 1), alone("z", 2)), impl.ErrForm},
		{"shared with alone", locks(shared("a", 1), alone("a", 2)), impl.ErrTaken},
		{"alone with shared", locks(alone("a", 1), shared("a", 2)), impl.ErrTaken},
		{"alone with alone", locks(alone("a", 1), alone("a", 2)), impl.ErrTaken},
		{"three, the last alone", locks(shared("a", 1), shared("a", 2), alone("a", 3)), impl.ErrTaken},
		{"three, the middle one alone", locks(shared("a", 1), alone("a", 2), shared("a", 3)), impl.ErrTaken},
		{"a clash at the end", locks(shared("a", 1), shared("a", 2), alone("b", 1), shared("b", 7)), impl.ErrTaken},
		{"alone with several keys", locks(alone("a", 1), alone("b", 1), shared("c", 1), shared("c", 2)), impl.OK},
		{"MaxLocks", manyAlone(60, 1), impl.OK},
		{"MaxLocks of one key", manyShared(60, "k", 1), impl.OK},
		{"one more", manyAlone(61, 1), impl.ErrMany},
		{"one more, none of them right", make([]impl.Lock, 61), impl.ErrMany},
		{"very many", make([]impl.Lock, 5000), impl.ErrMany},
		{"none of MaxLocks right", make([]impl.Lock, 60), impl.ErrForm},
		{"lock by lock: range, then form", locks(alone("a", 0), alone("", 1)), impl.ErrRange},
		{"lock by lock: form, then range", locks(alone("", 1), alone("a", 0)), impl.ErrForm},
		{"lock by lock: order, then range", locks(alone("b", 1), alone("a", 1), alone("c", 0)), impl.ErrForm},
		{"lock by lock: range, then order", locks(alone("c", 0), alone("b", 1), alone("a", 1)), impl.ErrRange},
		{"a lock's own range ahead of its order", locks(alone("b", 1), lock("a", 1, 3)), impl.ErrRange},
		{"range behind a clash", locks(alone("a", 1), alone("a", 2), alone("b", 0)), impl.ErrRange},
		{"form behind a clash", locks(alone("a", 1), alone("a", 2), alone("", 1)), impl.ErrForm},
		{"order behind a clash", locks(alone("b", 1), alone("b", 2), alone("a", 1)), impl.ErrForm},
	}
	for _, c := range cases {
		checkCode(t, c.name, impl.LocksFault(locksOf(c.held, nil)), c.want)
		checkCode(t, c.name+", told once more", wantLocksFault(locksOf(c.held, nil)), c.want)
	}
}

func TestWaitFaults(t *testing.T) {
	k1 := locks(alone("k", 1))
	s1 := locks(shared("k", 1))
	two := locks(shared("k", 1), shared("k", 5))
	cases := []struct {
		name  string
		table impl.Locks
		want  int64
	}{
		{"a wait for an elder", locksOf(k1, locks(alone("k", 2))), impl.OK},
		{"a shared wait for an elder", locksOf(k1, locks(shared("k", 2))), impl.OK},
		{"waits that fall", locksOf(k1, locks(alone("k", 9), shared("k", 3), alone("k", 2))), impl.OK},
		{"nobody holds anything", locksOf(nil, locks(alone("k", 2))), impl.ErrForm},
		{"nobody holds the key", locksOf(locks(alone("j", 1)), locks(alone("k", 2))), impl.ErrForm},
		{"both shared", locksOf(s1, locks(shared("k", 2))), impl.ErrForm},
		{"alone for shared", locksOf(s1, locks(alone("k", 2))), impl.OK},
		{"it holds the key itself", locksOf(locks(shared("k", 2)), locks(alone("k", 2))), impl.ErrForm},
		{"it and an elder hold the key", locksOf(locks(shared("k", 1), shared("k", 2)), locks(alone("k", 2))), impl.OK},
		{"a wait of an elder ahead", locksOf(s1, locks(alone("k", 5), shared("k", 7))), impl.OK},
		{"a wait of an elder behind", locksOf(s1, locks(shared("k", 7), alone("k", 5))), impl.OK},
		{"a wait of a younger one ahead", locksOf(s1, locks(alone("k", 5), shared("k", 3))), impl.ErrForm},
		{"a wait of a younger one behind", locksOf(s1, locks(shared("k", 3), alone("k", 5))), impl.ErrForm},
		{"a shared wait of an elder", locksOf(locks(alone("j", 1), shared("k", 1)), locks(shared("j", 5), shared("k", 7))), impl.ErrForm},
		{"a wait of an elder for another key", locksOf(locks(alone("j", 1), shared("k", 1)), locks(alone("j", 5), shared("k", 7))), impl.ErrForm},
		{"for a younger one", locksOf(locks(alone("k", 5)), locks(alone("k", 2))), impl.ErrForm},
		{"for a younger one that is pinned", locksOf(locks(alone("k", 5)), locks(alone("k", 2)), 5), impl.OK},
		{"for a younger one, another is pinned", locksOf(locks(alone("k", 5)), locks(alone("k", 2)), 4, 6), impl.ErrForm},
		{"for a younger one that is pinned and one that is not", locksOf(locks(shared("k", 5), shared("k", 6)), locks(alone("k", 2)), 5), impl.ErrForm},
		{"for an elder and a younger one", locksOf(two, locks(alone("k", 2))), impl.ErrForm},
		{"for an elder and a younger one that is pinned", locksOf(two, locks(alone("k", 2)), 5), impl.OK},
		{"shared beside a younger one that is shared", locksOf(two, locks(alone("k", 9), shared("k", 7)), 5), impl.ErrForm},
		{"for an elder that is pinned", locksOf(k1, locks(alone("k", 2)), 1), impl.OK},
		{"a holder with two waits", locksOf(locks(alone("j", 1), alone("k", 1)), locks(alone("j", 2), alone("k", 2))), impl.ErrTaken},
		{"a holder with two waits that are alike", locksOf(k1, locks(alone("k", 2), alone("k", 3), alone("k", 2))), impl.ErrTaken},
		{"a holder that is pinned", locksOf(k1, locks(alone("k", 2)), 2), impl.ErrTaken},
		{"a holder that is pinned among others", locksOf(k1, locks(alone("k", 2)), 1, 2, 3), impl.ErrTaken},
		{"MaxLocks", locksOf(k1, manyShared(60, "k", 2)), impl.OK},
		{"one more", locksOf(k1, manyShared(61, "k", 2)), impl.ErrMany},
		{"one more, none of them right", locksOf(nil, make([]impl.Lock, 61)), impl.ErrMany},
		{"wait by wait: not blocked, then range", locksOf(k1, locks(alone("j", 2), alone("k", 0))), impl.ErrForm},
		{"wait by wait: range, then not blocked", locksOf(k1, locks(alone("k", 0), alone("j", 2))), impl.ErrRange},
		{"wait by wait: taken, then range", locksOf(k1, locks(alone("k", 2), alone("k", 2), alone("k", 0))), impl.ErrTaken},
		{"wait by wait: range, then taken", locksOf(k1, locks(lock("k", 2, 3), alone("k", 2))), impl.ErrRange},
		{"wait by wait: not blocked, then pinned", locksOf(k1, locks(alone("j", 2), alone("k", 3)), 3), impl.ErrForm},
		{"wait by wait: pinned, then not blocked", locksOf(k1, locks(alone("k", 3), alone("j", 2)), 3), impl.ErrTaken},
		{"pinned ahead of not blocked", locksOf(k1, locks(alone("j", 2)), 2), impl.ErrTaken},
		{"two waits ahead of not blocked", locksOf(k1, locks(alone("k", 2), alone("j", 2))), impl.ErrTaken},
		{"range ahead of pinned", locksOf(k1, locks(lock("k", 2, 0)), 2), impl.ErrRange},
		{"form ahead of pinned", locksOf(k1, locks(alone("", 2)), 2), impl.ErrForm},
	}
	for _, c := range cases {
		checkCode(t, c.name, impl.LocksFault(c.table), c.want)
		checkCode(t, c.name+", told once more", wantLocksFault(c.table), c.want)
	}
}

func TestPinFaults(t *testing.T) {
	cases := []struct {
		name   string
		pinned []int64
		want   int64
	}{
		{"none", nil, impl.OK},
		{"far below", []int64{farLow}, impl.ErrRange},
		{"-1", []int64{-1}, impl.ErrRange},
		{"0", []int64{0}, impl.ErrRange},
		{"1", []int64{1}, impl.OK},
		{"10^9", []int64{maxTx}, impl.OK},
		{"10^9 and 1", []int64{maxTx + 1}, impl.ErrRange},
		{"far above", []int64{farHigh}, impl.ErrRange},
		{"that rise", []int64{1, 2, 9, maxTx}, impl.OK},
		{"that fall", []int64{2, 1}, impl.ErrForm},
		{"the same", []int64{2, 2}, impl.ErrForm},
		{"the same later", []int64{1, 2, 3, 2}, impl.ErrForm},
		{"MaxLocks", manyPins(60, 1), impl.OK},
		{"one more", manyPins(61, 1), impl.ErrMany},
		{"one more, none of them right", make([]int64, 61), impl.ErrMany},
		{"pin by pin: range, then order", []int64{0, 5, 5}, impl.ErrRange},
		{"pin by pin: order, then range", []int64{5, 5, 0}, impl.ErrForm},
		{"a pin's own range ahead of its order", []int64{5, 0}, impl.ErrRange},
		{"order ahead of a later range", []int64{5, 4, maxTx + 1}, impl.ErrForm},
	}
	for _, c := range cases {
		checkCode(t, c.name, impl.LocksFault(locksOf(nil, nil, c.pinned...)), c.want)
		checkCode(t, c.name+", told once more", wantLocksFault(locksOf(nil, nil, c.pinned...)), c.want)
	}
}

// Held, Waits and Pinned are asked one behind the other, but for how many
// they are.
func TestLocksFaultsInOrder(t *testing.T) {
	k1, w2 := locks(alone("k", 1)), locks(alone("k", 2))
	clash := locks(alone("k", 1), alone("k", 2))
	cases := []struct {
		name  string
		table impl.Locks
		want  int64
	}{
		{"many waits ahead of a wrong lock", locksOf(locks(alone("", 1)), make([]impl.Lock, 61)), impl.ErrMany},
		{"many pins ahead of a wrong lock", locksOf(locks(alone("", 1)), locks(alone("", 1)), make([]int64, 61)...), impl.ErrMany},
		{"all as many as may be", locksOf(manyAlone(60, 1), manyShared(60, "aaa", 2), manyPins(60, 100)...), impl.OK},
		{"a clash ahead of a wait's form", locksOf(clash, locks(alone("", 3))), impl.ErrTaken},
		{"a clash ahead of a wait's range", locksOf(clash, locks(alone("k", 0))), impl.ErrTaken},
		{"a clash ahead of a pin's range", locksOf(clash, nil, 0), impl.ErrTaken},
		{"order of Held ahead of a wait", locksOf(locks(alone("b", 1), alone("a", 1)), locks(alone("k", 0))), impl.ErrForm},
		{"a wait's form ahead of a pin's range", locksOf(k1, locks(alone("j", 2)), 0), impl.ErrForm},
		{"a wait's range ahead of a pin's order", locksOf(k1, locks(alone("k", 0)), 5, 5), impl.ErrRange},
		{"a pinned wait ahead of a pin's range", locksOf(k1, w2, 0, 2), impl.ErrTaken},
		{"a pinned wait ahead of a pin's order", locksOf(k1, w2, 9, 8, 2, 1), impl.ErrTaken},
		{"a pinned younger one among pins that fall", locksOf(locks(alone("k", 5)), locks(alone("k", 2)), maxTx+1, 5), impl.ErrRange},
		{"right locks and waits, wrong pins", locksOf(k1, w2, 4, 3), impl.ErrForm},
	}
	for _, c := range cases {
		checkCode(t, c.name, impl.LocksFault(c.table), c.want)
		checkCode(t, c.name+", told once more", wantLocksFault(c.table), c.want)
		if c.want != impl.OK {
			checkLocksFaulted(t, c.name, c.table, c.want)
		}
	}
}

func TestRequestLockCodes(t *testing.T) {
	table := locksOf(locks(alone("k", 1), alone("m", 5)), locks(alone("k", 3)), 5)
	long := strings.Repeat("k", 21)
	cases := []struct {
		name string
		tx   int64
		key  string
		mode int64
		want int64
	}{
		{"no key", 2, "", 1, impl.ErrForm},
		{"a long key", 2, long, 1, impl.ErrForm},
		{"tx 0", 0, "k", 1, impl.ErrRange},
		{"tx 10^9 and 1", maxTx + 1, "k", 1, impl.ErrRange},
		{"tx far below", farLow, "k", 1, impl.ErrRange},
		{"tx far above", farHigh, "k", 1, impl.ErrRange},
		{"mode 0", 2, "k", 0, impl.ErrRange},
		{"mode 3", 2, "k", 3, impl.ErrRange},
		{"mode far below", 2, "k", farLow, impl.ErrRange},
		{"mode far above", 2, "k", farHigh, impl.ErrRange},
		{"it has a wait", 3, "k", 2, impl.ErrBusy},
		{"it has a wait for another key", 3, "free", 1, impl.ErrBusy},
		{"it is pinned", 5, "free", 1, impl.ErrBusy},
		{"it is pinned and holds the key", 5, "m", 2, impl.ErrBusy},
		{"form ahead of range", 0, "", 3, impl.ErrForm},
		{"form ahead of busy", 5, "", 1, impl.ErrForm},
		{"range ahead of busy", 5, "m", 3, impl.ErrRange},
		{"range ahead of busy, of one that waits", 3, "k", 0, impl.ErrRange},
	}
	for _, c := range cases {
		checkLocksCode(t, c.name, impl.RequestLock(table, c.tx, c.key, c.mode), c.want)
		checkLocksCode(t, c.name+", told once more", wantRequestLock(table, c.tx, c.key, c.mode), c.want)
	}
}

func TestRequestLockOfAFreeKey(t *testing.T) {
	empty := impl.Locks{}
	checkGranted(t, "shared", impl.RequestLock(empty, 5, "k", 1), locksOf(locks(shared("k", 5)), nil))
	checkGranted(t, "alone", impl.RequestLock(empty, 5, "k", 2), locksOf(locks(alone("k", 5)), nil))
	checkGranted(t, "10^9", impl.RequestLock(empty, maxTx, strings.Repeat("k", 20), 2), locksOf(locks(alone(strings.Repeat("k", 20), maxTx)), nil))
	held := locks(alone("b", 5), shared("d", 5))
	checkGranted(t, "the first key", impl.RequestLock(locksOf(held, nil), 2, "a", 2), locksOf(locks(alone("a", 2), held[0], held[1]), nil))
	checkGranted(t, "a key between", impl.RequestLock(locksOf(held, nil), 9, "c", 1), locksOf(locks(held[0], shared("c", 9), held[1]), nil))
	checkGranted(t, "the last key", impl.RequestLock(locksOf(held, nil), 9, "d\x00", 1), locksOf(locks(held[0], held[1], shared("d\x00", 9)), nil))
	checkGranted(t, "shared by an elder", impl.RequestLock(locksOf(held, nil), 2, "d", 1), locksOf(locks(held[0], shared("d", 2), held[1]), nil))
	checkGranted(t, "shared by a younger one", impl.RequestLock(locksOf(held, nil), 9, "d", 1), locksOf(locks(held[0], held[1], shared("d", 9)), nil))
	checkGranted(t, "beside pins", impl.RequestLock(locksOf(held, nil, 5, 7), 9, "d", 1), locksOf(locks(held[0], held[1], shared("d", 9)), nil, 5, 7))
}

func TestRequestLockOfWhatItHolds(t *testing.T) {
	one := locksOf(locks(alone("k", 5)), nil)
	checkGranted(t, "alone, asks shared", impl.RequestLock(one, 5, "k", 1), one)
	checkGranted(t, "alone, asks alone", impl.RequestLock(one, 5, "k", 2), one)
	two := locksOf(locks(shared("k", 5)), nil)
	checkGranted(t, "shared, asks shared", impl.RequestLock(two, 5, "k", 1), two)
	checkGranted(t, "shared, asks alone", impl.RequestLock(two, 5, "k", 2), one)
	elder := locksOf(locks(shared("k", 2), shared("k", 5)), nil)
	checkWaiting(t, "shared with an elder, asks alone", impl.RequestLock(elder, 5, "k", 2), locksOf(elder.Held, locks(alone("k", 5))))
	checkGranted(t, "shared with an elder, asks shared", impl.RequestLock(elder, 5, "k", 1), elder)
	checkGranted(t, "shared with a younger one, asks alone", impl.RequestLock(elder, 2, "k", 2), locksOf(locks(alone("k", 2)), nil), 5)
	pinned := locksOf(elder.Held, nil, 5)
	checkWaiting(t, "shared with a pinned younger one, asks alone", impl.RequestLock(pinned, 2, "k", 2), locksOf(elder.Held, locks(alone("k", 2)), 5))
	behind := impl.ReleaseLocks(locksOf(elder.Held, locks(alone("k", 5))), 2)
	checkTable(t, "let in with what it held", behind, one)
	waiting := locksOf(one.Held, locks(shared("k", 7)))
	checkGranted(t, "asks for less while others wait", impl.RequestLock(waiting, 5, "k", 1), waiting)
}

func TestRequestLockWounds(t *testing.T) {
	one := locksOf(locks(alone("k", 5)), nil)
	checkGranted(t, "the document's example", impl.RequestLock(one, 2, "k", 2), locksOf(locks(alone("k", 2)), nil), 5)
	checkGranted(t, "shared", impl.RequestLock(one, 4, "k", 1), locksOf(locks(shared("k", 4)), nil), 5)
	checkWaiting(t, "no elder", impl.RequestLock(one, 6, "k", 2), locksOf(one.Held, locks(alone("k", 6))))
	both := locksOf(locks(shared("k", 5), shared("k", 6)), nil)
	checkGranted(t, "two", impl.RequestLock(both, 2, "k", 2), locksOf(locks(alone("k", 2)), nil), 5, 6)
	mixed := locksOf(locks(shared("k", 1), shared("k", 5), shared("k", 6)), nil)
	checkWaiting(t, "two, and an elder is left", impl.RequestLock(mixed, 3, "k", 2), locksOf(locks(shared("k", 1)), locks(alone("k", 3))), 5, 6)
	other := locksOf(locks(alone("a", 5), alone("k", 5), alone("z", 5)), nil)
	checkGranted(t, "with all that it has", impl.RequestLock(other, 2, "k", 2), locksOf(locks(alone("k", 2)), nil), 5)
	keeps := locksOf(locks(alone("a", 2), alone("a\x00", 7), alone("k", 5), alone("z", 5)), nil)
	checkGranted(t, "others keep what they have", impl.RequestLock(keeps, 2, "k", 2), locksOf(locks(alone("a", 2), alone("a\x00", 7), alone("k", 2)), nil), 5)
	far := locksOf(locks(shared("k", maxTx-1), shared("k", maxTx)), nil)
	checkGranted(t, "the youngest", impl.RequestLock(far, maxTx-1, "k", 2), locksOf(locks(alone("k", maxTx-1)), nil), maxTx)
	// 7 holds nothing of k: that it only waits for it does not wound it.
	waits := locksOf(locks(alone("k", 5)), locks(alone("k", 7)))
	checkGranted(t, "who waits is not wounded", impl.RequestLock(waits, 2, "k", 2), locksOf(locks(alone("k", 2)), locks(alone("k", 7))), 5)
}

// One of those that are wounded waits for another key, and others wait for
// what it holds.
func TestRequestLockWoundsOneThatWaits(t *testing.T) {
	table := locksOf(
		locks(alone("j", 6), shared("k", 5), shared("k", 6), shared("k", 7), alone("m", 1)),
		locks(alone("m", 6), alone("j", 9), alone("m", 8)),
	)
	checkCode(t, "the table", impl.LocksFault(table), impl.OK)
	want := locksOf(locks(alone("j", 9), alone("k", 2), alone("m", 1)), locks(alone("m", 8)))
	checkGranted(t, "with others", impl.RequestLock(table, 2, "k", 2), want, 5, 6, 7)
	want = locksOf(locks(shared("j", 4), shared("k", 5), shared("k", 7), alone("m", 1)), locks(alone("j", 9), alone("m", 8)))
	checkGranted(t, "by what it alone holds", impl.RequestLock(table, 4, "j", 1), want, 6)
}

func TestRequestLockBesideElders(t *testing.T) {
	table := locksOf(locks(shared("k", 1)), locks(alone("k", 3)))
	checkWaiting(t, "an elder waits", impl.RequestLock(table, 4, "k", 1), locksOf(table.Held, locks(alone("k", 3), shared("k", 4))))
	checkWaiting(t, "an elder waits, alone", impl.RequestLock(table, 4, "k", 2), locksOf(table.Held, locks(alone("k", 3), alone("k", 4))))
	checkGranted(t, "a younger one waits", impl.RequestLock(table, 2, "k", 1), locksOf(locks(shared("k", 1), shared("k", 2)), table.Waits))
	checkWaiting(t, "a younger one waits, alone", impl.RequestLock(table, 2, "k", 2), locksOf(table.Held, locks(alone("k", 3), alone("k", 2))))
	checkGranted(t, "an elder waits for another key", impl.RequestLock(table, 4, "j", 2), locksOf(locks(alone("j", 4), shared("k", 1)), table.Waits))
	// 5 is pinned: 3 waits for it shared, which does not clash with shared.
	pinned := locksOf(locks(alone("k", 5)), locks(shared("k", 3)), 5)
	checkWaiting(t, "shared beside a shared wait", impl.RequestLock(pinned, 4, "k", 1), locksOf(pinned.Held, locks(shared("k", 3), shared("k", 4)), 5))
	behind := impl.ReleaseLocks(impl.RequestLock(pinned, 4, "k", 1).Locks, 5)
	checkTable(t, "both let in", behind, locksOf(locks(shared("k", 3), shared("k", 4)), nil))
	// 1 asks for more than it holds: elders that wait do not hold it up, there are none.
	checkGranted(t, "the eldest asks for more", impl.RequestLock(table, 1, "k", 2), locksOf(locks(alone("k", 1)), table.Waits))
}

func TestRequestLockBesidePinnedOnes(t *testing.T) {
	one := locksOf(locks(alone("k", 5)), nil, 5)
	checkWaiting(t, "a pinned younger one", impl.RequestLock(one, 2, "k", 2), locksOf(one.Held, locks(alone("k", 2)), 5))
	checkWaiting(t, "a pinned younger one, shared", impl.RequestLock(one, 2, "k", 1), locksOf(one.Held, locks(shared("k", 2)), 5))
	three := locksOf(locks(shared("k", 4), shared("k", 5), shared("k", 6)), nil, 5)
	checkWaiting(t, "one of three", impl.RequestLock(three, 2, "k", 2), locksOf(locks(shared("k", 5)), locks(alone("k", 2)), 5), 4, 6)
	checkGranted(t, "shared beside it", impl.RequestLock(three, 2, "k", 1), locksOf(locks(shared("k", 2), shared("k", 4), shared("k", 5), shared("k", 6)), nil, 5))
	elder := locksOf(locks(alone("k", 1)), nil, 1)
	checkWaiting(t, "a pinned elder", impl.RequestLock(elder, 2, "k", 2), locksOf(elder.Held, locks(alone("k", 2)), 1))
	others := locksOf(locks(alone("k", 5)), nil, 4, 6)
	checkGranted(t, "others are pinned", impl.RequestLock(others, 2, "k", 2), locksOf(locks(alone("k", 2)), nil, 4, 6), 5)
	// 5 holds k shared and j: it is pinned, so it keeps j too.
	keeps := locksOf(locks(alone("j", 5), shared("k", 5), shared("k", 7)), nil, 5)
	checkWaiting(t, "a pinned one keeps all", impl.RequestLock(keeps, 2, "k", 2), locksOf(locks(alone("j", 5), shared("k", 5)), locks(alone("k", 2)), 5), 7)
	// 3 waits for 5, which is pinned, and holds j: it is wounded itself.
	waits := locksOf(locks(alone("j", 3), alone("k", 5)), locks(alone("k", 3)), 5)
	checkGranted(t, "who waits for a pinned one is wounded", impl.RequestLock(waits, 2, "j", 2), locksOf(locks(alone("j", 2), alone("k", 5)), nil, 5), 3)
}

func TestLettingInBehindAWound(t *testing.T) {
	table := locksOf(
		locks(alone("j", 5), alone("k", 5)),
		locks(shared("k", 9), alone("j", 8), alone("j", 7), shared("k", 6)),
	)
	checkCode(t, "the table", impl.LocksFault(table), impl.OK)
	want := locksOf(locks(alone("j", 7), shared("k", 2), shared("k", 6), shared("k", 9)), locks(alone("j", 8)))
	checkGranted(t, "shared", impl.RequestLock(table, 2, "k", 1), want, 5)
	want = locksOf(locks(alone("j", 7), alone("k", 2)), locks(shared("k", 9), alone("j", 8), shared("k", 6)))
	checkGranted(t, "alone", impl.RequestLock(table, 2, "k", 2), want, 5)

	// Who asks is granted ahead of those that are let in.
	ahead := locksOf(locks(alone("k", 5)), locks(alone("k", 7)))
	checkGranted(t, "ahead of them", impl.RequestLock(ahead, 2, "k", 1), locksOf(locks(shared("k", 2)), locks(alone("k", 7))), 5)

	// 5 holds k shared with 1 and waits for it alone, which holds up 9; then
	// 2, which waits now too, holds it up.
	held := locks(shared("k", 1), shared("k", 5))
	holds := locksOf(held, locks(alone("k", 5), shared("k", 9)))
	checkWaiting(t, "who asks waits ahead of them", impl.RequestLock(holds, 2, "k", 2), locksOf(held[:1], locks(shared("k", 9), alone("k", 2))), 5)

	// With 5 goes its wait for k, which alone held up 7.
	gone := locksOf(locks(alone("j", 5), shared("k", 1)), locks(alone("k", 5), shared("k", 7)))
	checkGranted(t, "a wait that goes", impl.RequestLock(gone, 2, "j", 2), locksOf(locks(alone("j", 2), shared("k", 1), shared("k", 7)), nil), 5)

	// Nobody is wounded and nobody let in; 7 waits on.
	still := locksOf(locks(alone("k", 5)), locks(alone("k", 7)))
	checkGranted(t, "nobody is let in", impl.RequestLock(still, 2, "j", 2), locksOf(locks(alone("j", 2), alone("k", 5)), still.Waits))
}

// Who is let in blocks the next one, and whose wait is gone holds up nobody.
func TestLettingInOneByOne(t *testing.T) {
	five := locks(alone("k", 5))
	cases := []struct {
		name  string
		waits []impl.Lock
		held  []impl.Lock
		left  []impl.Lock
	}{
		{"one", locks(alone("k", 6)), locks(alone("k", 6)), nil},
		{"the next is blocked", locks(alone("k", 6), alone("k", 7)), locks(alone("k", 6)), locks(alone("k", 7))},
		{"the elder goes first", locks(alone("k", 7), alone("k", 6)), locks(alone("k", 6)), locks(alone("k", 7))},
		{"alone blocks shared", locks(alone("k", 6), shared("k", 7), shared("k", 8)), locks(alone("k", 6)), locks(shared("k", 7), shared("k", 8))},
		{"shared blocks alone", locks(shared("k", 6), alone("k", 7)), locks(shared("k", 6)), locks(alone("k", 7))},
		{"all shared", locks(shared("k", 9), shared("k", 7), shared("k", 8)), locks(shared("k", 7), shared("k", 8), shared("k", 9)), nil},
		{"shared up to one alone", locks(shared("k", 9), alone("k", 8), shared("k", 7), shared("k", 6)), locks(shared("k", 6), shared("k", 7)), locks(shared("k", 9), alone("k", 8))},
		{"an elder alone, then shared", locks(shared("k", 9), shared("k", 8), alone("k", 6)), locks(alone("k", 6)), locks(shared("k", 9), shared("k", 8))},
	}
	for _, c := range cases {
		checkTable(t, c.name, impl.ReleaseLocks(locksOf(five, c.waits), 5), locksOf(c.held, c.left))
	}
	keys := locksOf(locks(alone("a", 5), alone("b", 5), alone("c", 1)), locks(alone("b", 7), alone("c", 6), alone("a", 8), shared("a", 9)))
	checkTable(t, "several keys", impl.ReleaseLocks(keys, 5), locksOf(locks(alone("a", 8), alone("b", 7), alone("c", 1)), locks(alone("c", 6), shared("a", 9))))
}

func TestRequestLockWithoutRoomInHeld(t *testing.T) {
	full := locksOf(manyAlone(60, 5), nil)
	checkLocksCode(t, "a new key", impl.RequestLock(full, 2, "k", 1), impl.ErrMany)
	checkLocksCode(t, "a new key of who holds all", impl.RequestLock(full, 5, "k", 1), impl.ErrMany)
	checkGranted(t, "what it holds already", impl.RequestLock(full, 5, "aaa", 1), full)
	checkWaiting(t, "it waits", impl.RequestLock(full, 9, "aaa", 1), locksOf(full.Held, locks(shared("aaa", 9))))
	checkGranted(t, "all were wounded", impl.RequestLock(full, 2, "aaa", 1), locksOf(locks(shared("aaa", 2)), nil), 5)
	one := locksOf(append(manyAlone(59, 1), alone("k", 5)), nil)
	checkGranted(t, "in the place of one that was wounded", impl.RequestLock(one, 2, "k", 2), locksOf(append(manyAlone(59, 1), alone("k", 2)), nil), 5)
	most := locksOf(manyAlone(59, 5), nil)
	checkGranted(t, "the last place", impl.RequestLock(most, 9, "k", 1), locksOf(append(manyAlone(59, 5), shared("k", 9)), nil))
	pinned := locksOf(manyAlone(60, 5), nil, 2)
	checkLocksCode(t, "busy ahead of many", impl.RequestLock(pinned, 2, "k", 1), impl.ErrBusy)
	readers := locksOf(manyShared(60, "k", 1), nil)
	checkLocksCode(t, "one more that is shared", impl.RequestLock(readers, 61, "k", 1), impl.ErrMany)
	checkGranted(t, "one alone for many", impl.RequestLock(readers, 1, "k", 2), locksOf(locks(alone("k", 1)), nil), manyPins(59, 2)...)
}

func TestRequestLockWithoutRoomInWaits(t *testing.T) {
	full := locksOf(locks(alone("k", 1)), manyShared(60, "k", 3))
	checkLocksCode(t, "one more", impl.RequestLock(full, 2, "k", 1), impl.ErrMany)
	checkLocksCode(t, "one more, younger", impl.RequestLock(full, 99, "k", 2), impl.ErrMany)
	checkGranted(t, "a free key", impl.RequestLock(full, 2, "m", 1), locksOf(locks(alone("k", 1), shared("m", 2)), full.Waits))
	checkLocksCode(t, "busy ahead of many", impl.RequestLock(full, 3, "k", 1), impl.ErrBusy)
	most := locksOf(locks(alone("k", 1)), manyShared(59, "k", 3))
	checkWaiting(t, "the last place", impl.RequestLock(most, 2, "k", 1), locksOf(most.Held, append(manyShared(59, "k", 3), shared("k", 2))))
	// 40 is wounded, and so its wait is gone: there is room for that of 2.
	held := locks(shared("j", 1), shared("j", 40), alone("k", 1))
	wounds := locksOf(held, manyShared(60, "k", 3))
	left := slices.DeleteFunc(manyShared(60, "k", 3), func(l impl.Lock) bool { return l.Holder == 40 })
	checkWaiting(t, "in the place of one that was wounded", impl.RequestLock(wounds, 2, "j", 2), locksOf(locks(held[0], held[2]), append(left, alone("j", 2))), 40)
}

// The document names no code of what is let in: there may be more of Held
// than MaxLocks then, and that table has a fault.
func TestLettingInHasNoCode(t *testing.T) {
	table := locksOf(append(manyAlone(59, 1), alone("k", 5)), manyShared(3, "k", 6))
	checkCode(t, "the table", impl.LocksFault(table), impl.OK)
	let := append(manyAlone(59, 1), manyShared(3, "k", 6)...)
	checkLocksResult(t, "released", impl.ReleaseLocks(table, 5), impl.LocksResult{Locks: locksOf(let, nil)})
	asked := slices.Concat(manyAlone(59, 1), locks(shared("k", 2)), manyShared(3, "k", 6))
	checkLocksResult(t, "wounded", impl.RequestLock(table, 2, "k", 1), impl.LocksResult{Granted: true, Wounded: []int64{5}, Locks: locksOf(asked, nil)})
	checkLocksFaulted(t, "one more than may be", locksOf(let, nil), impl.ErrMany)
	table.Waits = table.Waits[:1]
	checkTable(t, "one for one", impl.ReleaseLocks(table, 5), locksOf(let[:60], nil))
}

func TestReleaseLocks(t *testing.T) {
	table := locksOf(
		locks(alone("a", 1), shared("b", 2), shared("b", 5), alone("c", 5), alone("d", 7)),
		locks(alone("b", 8), alone("c", 9), alone("d", 2), shared("b", 10)),
		1, 4, 7,
	)
	checkCode(t, "the table", impl.LocksFault(table), impl.OK)
	cases := []struct {
		name string
		tx   int64
		want impl.Locks
	}{
		{"it holds, and is pinned", 1, locksOf(table.Held[1:], table.Waits, 4, 7)},
		{"it holds and waits", 2, locksOf(slices.Delete(slices.Clone(table.Held), 1, 2), locks(alone("b", 8), alone("c", 9), shared("b", 10)), 1, 4, 7)},
		{"it holds two", 5, locksOf(locks(alone("a", 1), shared("b", 2), alone("c", 9), alone("d", 7)), locks(alone("b", 8), alone("d", 2), shared("b", 10)), 1, 4, 7)},
		{"it holds what others wait for, and is pinned", 7, locksOf(append(slices.Clone(table.Held[:4]), alone("d", 2)), locks(alone("b", 8), alone("c", 9), shared("b", 10)), 1, 4)},
		{"it waits, and holds up others", 8, locksOf(locks(alone("a", 1), shared("b", 2), shared("b", 5), shared("b", 10), alone("c", 5), alone("d", 7)), locks(alone("c", 9), alone("d", 2)), 1, 4, 7)},
		{"it waits", 9, locksOf(table.Held, locks(alone("b", 8), alone("d", 2), shared("b", 10)), 1, 4, 7)},
		{"it is pinned alone", 4, locksOf(table.Held, table.Waits, 1, 7)},
		{"it has nothing", 3, table},
		{"it has nothing, 10^9", maxTx, table},
	}
	for _, c := range cases {
		checkTable(t, c.name, impl.ReleaseLocks(table, c.tx), c.want)
	}
	for _, tx := range []int64{farLow, -1, 0, maxTx + 1, farHigh} {
		checkLocksCode(t, "no transaction", impl.ReleaseLocks(table, tx), impl.ErrRange)
		checkLocksCode(t, "no transaction, of an empty table", impl.ReleaseLocks(impl.Locks{}, tx), impl.ErrRange)
	}
	checkTable(t, "of an empty table", impl.ReleaseLocks(impl.Locks{}, 1), impl.Locks{})
	twice := impl.ReleaseLocks(impl.ReleaseLocks(table, 5).Locks, 5)
	checkTable(t, "twice", twice, impl.ReleaseLocks(table, 5).Locks)
}

func TestPinTx(t *testing.T) {
	table := locksOf(locks(alone("k", 3)), locks(alone("k", 6)), 4)
	cases := []struct {
		name string
		tx   int64
		want []int64
	}{
		{"it holds", 3, []int64{3, 4}},
		{"it has nothing", 9, []int64{4, 9}},
		{"it is pinned already", 4, []int64{4}},
		{"1", 1, []int64{1, 4}},
		{"10^9", maxTx, []int64{4, maxTx}},
	}
	for _, c := range cases {
		once := impl.PinTx(table, c.tx)
		checkTable(t, c.name, once, locksOf(table.Held, table.Waits, c.want...))
		checkTable(t, c.name+", twice", impl.PinTx(once.Locks, c.tx), once.Locks)
	}
	checkLocksCode(t, "it has a wait", impl.PinTx(table, 6), impl.ErrBusy)
	for _, tx := range []int64{farLow, -1, 0, maxTx + 1, farHigh} {
		checkLocksCode(t, "no transaction", impl.PinTx(table, tx), impl.ErrRange)
	}
	checkTable(t, "of an empty table", impl.PinTx(impl.Locks{}, 7), locksOf(nil, nil, 7))
	checkTable(t, "between two", impl.PinTx(locksOf(nil, nil, 5, 9), 7), locksOf(nil, nil, 5, 7, 9))

	most := locksOf(table.Held, table.Waits, manyPins(59, 100)...)
	checkTable(t, "the last place", impl.PinTx(most, 3), locksOf(table.Held, table.Waits, append([]int64{3}, manyPins(59, 100)...)...))
	full := locksOf(table.Held, table.Waits, manyPins(60, 100)...)
	checkLocksCode(t, "no room", impl.PinTx(full, 3), impl.ErrMany)
	checkTable(t, "no room, but it is pinned", impl.PinTx(full, 159), full)
	checkLocksCode(t, "busy ahead of many", impl.PinTx(full, 6), impl.ErrBusy)
	checkLocksCode(t, "range ahead of many", impl.PinTx(full, 0), impl.ErrRange)
}

// Who is pinned may not ask until it is released; then it may be wounded.
func TestPinnedUntilReleased(t *testing.T) {
	table := impl.PinTx(locksOf(locks(alone("k", 5)), nil), 5).Locks
	checkLocksCode(t, "pinned", impl.RequestLock(table, 5, "j", 1), impl.ErrBusy)
	waiting := impl.RequestLock(table, 2, "k", 2)
	checkWaiting(t, "an elder waits", waiting, locksOf(locks(alone("k", 5)), locks(alone("k", 2)), 5))
	released := impl.ReleaseLocks(waiting.Locks, 5)
	checkTable(t, "released", released, locksOf(locks(alone("k", 2)), nil))
	again := impl.RequestLock(released.Locks, 5, "j", 1)
	checkGranted(t, "asks again", again, locksOf(locks(shared("j", 5), alone("k", 2)), nil))
	checkGranted(t, "is wounded", impl.RequestLock(again.Locks, 2, "j", 2), locksOf(locks(alone("j", 2), alone("k", 2)), nil), 5)
}

func TestHoldersOf(t *testing.T) {
	table := locksOf(locks(alone("a", 9), shared("aa", 7), shared("b", 2), shared("b", 5), shared("b", maxTx)), locks(alone("b", 3), shared("a", 10)), 5, maxTx)
	checkCode(t, "the table", impl.LocksFault(table), impl.OK)
	cases := map[string][]int64{"a": {9}, "aa": {7}, "b": {2, 5, maxTx}, "c": nil, "": nil, "\x00": nil, "aaa": nil, strings.Repeat("k", 21): nil}
	for key, want := range cases {
		checkNumbers(t, "HoldersOf "+key, impl.HoldersOf(table, key), impl.IntsResult{List: want})
		checkNumbers(t, "of an empty table", impl.HoldersOf(impl.Locks{}, key), impl.IntsResult{})
	}
	checkNumbers(t, "many", impl.HoldersOf(locksOf(manyShared(60, "k", 1), nil), "k"), impl.IntsResult{List: manyPins(60, 1)})
}

func TestBlockersOf(t *testing.T) {
	table := locksOf(
		locks(shared("j", 1), shared("j", 4), shared("k", 1), shared("k", 5), shared("k", 20), alone("m", 1)),
		locks(alone("j", 9), alone("k", 30), alone("k", 8), shared("k", 25), alone("m", 12), shared("m", 11)),
		5, 20,
	)
	checkCode(t, "the table", impl.LocksFault(table), impl.OK)
	cases := map[int64][]int64{
		9:  {1, 4},
		30: {1, 5, 8, 20, 25},
		8:  {1, 5, 20},
		25: {8},
		12: {1, 11},
		11: {1},
	}
	for tx, want := range cases {
		checkNumbers(t, "BlockersOf", impl.BlockersOf(table, tx), impl.IntsResult{List: want})
	}
	for _, tx := range []int64{farLow, -1, 0, 1, 4, 5, 20, 7, 99, maxTx, maxTx + 1, farHigh} {
		checkNumbers(t, "no wait", impl.BlockersOf(table, tx), impl.IntsResult{Code: impl.ErrNone})
		checkNumbers(t, "an empty table", impl.BlockersOf(impl.Locks{}, tx), impl.IntsResult{Code: impl.ErrNone})
	}
	// 3 holds k shared and waits for it alone: it blocks 6 by both.
	twice := locksOf(locks(shared("k", 1), shared("k", 3)), locks(alone("k", 6), alone("k", 3)))
	checkNumbers(t, "by a lock and a wait", impl.BlockersOf(twice, 6), impl.IntsResult{List: []int64{1, 3}})
	checkNumbers(t, "not by itself", impl.BlockersOf(twice, 3), impl.IntsResult{List: []int64{1}})
	// The wait of the elder 2 stands behind; the lock of the pinned 9 is younger.
	order := locksOf(locks(shared("k", 9)), locks(alone("k", 4), alone("k", 2)), 9)
	checkNumbers(t, "rising", impl.BlockersOf(order, 4), impl.IntsResult{List: []int64{2, 9}})
	checkNumbers(t, "a younger wait is none", impl.BlockersOf(order, 2), impl.IntsResult{List: []int64{9}})
}

func TestLocksText(t *testing.T) {
	cases := []struct {
		name  string
		table impl.Locks
		want  string
	}{
		{"empty", impl.Locks{}, ""},
		{"held", locksOf(locks(alone("a", 1)), nil), "held a 1 2\n"},
		{"pinned", locksOf(nil, nil, 3, 20), "pin 3\npin 20\n"},
		{"the wait of an elder", locksOf(locks(shared("k", 2)), locks(alone("k", 1)), 2), "held k 2 1\nwaits k 1 2\npin 2\n"},
		{"all three", locksOf(locks(alone("a", 1), shared("b", 2), shared("b", maxTx)), locks(alone("b", 12), shared("a", 7)), 3, maxTx), "held a 1 2\nheld b 2 1\nheld b 1000000000 1\nwaits b 12 2\nwaits a 7 1\npin 3\npin 1000000000\n"},
		{"keys of odd bytes", locksOf(locks(alone("\x00\n", 1), alone(" ", 1), alone("\xff", 1)), nil), "held \x00\n 1 2\nheld   1 2\nheld \xff 1 2\n"},
	}
	for _, c := range cases {
		checkText(t, c.name, impl.LocksText(c.table), impl.TextResult{Text: c.want})
	}
	fault := locksOf(locks(alone("a", 1)), locks(alone("b", 2)))
	checkText(t, "a fault", impl.LocksText(fault), impl.TextResult{Code: impl.ErrForm})
	full := locksOf(manyAlone(60, 1), manyShared(60, "aaa", 2), manyPins(60, 100)...)
	checkText(t, "as many as may be", impl.LocksText(full), wantLocksText(full))
}
