package tests

import (
	"reflect"
	"slices"
	"testing"

	"loop.example/g00203/impl"
)

// askedKeys are all that the walks write, and some that nobody has.
var askedKeys = append([]string{"", "none", "aaa"}, oddKeys...)

// askedVersions are those at which what is read may change, and far ones.
func askedVersions(e impl.Engine) []int64 {
	list := []int64{farLow, 0, e.Next - 1, e.Next, e.Next + 1, 1000000, farHigh}
	for _, r := range slices.Concat(append(slices.Clone(e.Tables), e.Mem)...) {
		list = append(list, r.Version-1, r.Version)
	}
	slices.Sort(list)
	return slices.Compact(list)
}

func readRight(t *testing.T, e impl.Engine, key string, version int64) impl.TextResult {
	t.Helper()
	r := impl.ReadKey(e, key, version)
	if r.Code != impl.OK && r != (impl.TextResult{Code: impl.ErrNone}) {
		t.Fatalf("ReadKey(%v, %q, %d): %v", e, key, version, r)
	}
	return r
}

// seenBy is what is told of key at version where the batches stand above
// what is told without them.
func seenBy(batches []batch, key string, version int64, without impl.TextResult) impl.TextResult {
	told := without
	for _, b := range batches {
		for _, w := range b.list {
			switch {
			case b.version > version || w.Key != key:
			case w.Gone:
				told = impl.TextResult{Code: impl.ErrNone}
			default:
				told = impl.TextResult{Text: w.Value}
			}
		}
	}
	return told
}

// Promise 7: a batch is seen from its version on, and not ahead of it.
func TestABatchIsSeenFromItsVersionOn(t *testing.T) {
	d := dice(75)
	for i, w := range manyWalked(t, &d, 60) {
		list := d.writes(8)
		r := impl.WriteBatch(w.engine, list, i%2 == 0)
		if r.Code != impl.OK || r.Version != w.engine.Next || r.Engine.Next != r.Version+1 || impl.EngineFault(r.Engine) != impl.OK {
			t.Fatalf("WriteBatch(%v, %v): %v, fault %d", w.engine, list, r, impl.EngineFault(r.Engine))
		}
		for _, key := range askedKeys {
			for _, version := range askedVersions(r.Engine) {
				before, after := readRight(t, w.engine, key, version), readRight(t, r.Engine, key, version)
				if version < r.Version && before != after {
					t.Fatalf("%v with %v: %q at %d is %v, was %v", w.engine, list, key, version, after, before)
				}
				if want := seenBy([]batch{batchOf(r.Version, list...)}, key, version, before); after != want {
					t.Fatalf("%v with %v: %q at %d is %v, want %v", w.engine, list, key, version, after, want)
				}
			}
		}
	}
}

// Promise 7: all that was ever written is told, over flushes and crashes (but
// what these lost).
func TestAllBatchesAreTold(t *testing.T) {
	d := dice(76)
	flushed, lost := 0, 0
	for range 40 {
		w := walked{engine: impl.NewEngine(1).Engine}
		var history []batch
		for range 6 + d.below(20) {
			var r impl.EngineResult
			switch kind := d.below(8); {
			case kind == 0 && len(w.engine.Mem) > 0 && len(w.engine.Tables) < 6:
				r = impl.FlushEngine(w.engine)
				w.batches = nil
				flushed++
			case kind == 1:
				kept := d.below(int64(len(w.engine.Log.Loose) + 1))
				r = impl.CrashEngine(w.engine, kept)
				n := w.wholeIn(int64(len(w.engine.Log.Synced)) + kept)
				lost += len(w.batches) - n
				history = history[:len(history)-(len(w.batches)-n)]
				w.batches = w.batches[:n]
			default:
				b := batchOf(w.engine.Next, d.writes(3)...)
				r = impl.WriteBatch(w.engine, b.list, d.below(2) == 0)
				history = append(slices.Clone(history), b)
				w.batches = append(slices.Clone(w.batches), b)
			}
			checkCode(t, "a step", r.Code, impl.OK)
			w.engine = r.Engine
		}
		for _, key := range askedKeys {
			for _, version := range askedVersions(w.engine) {
				want := seenBy(history, key, version, impl.TextResult{Code: impl.ErrNone})
				if got := readRight(t, w.engine, key, version); got != want {
					t.Fatalf("%v: %q at %d is %v, want %v", w.engine, key, version, got, want)
				}
			}
		}
	}
	if flushed < 40 || lost < 20 {
		t.Errorf("%d flushed, %d lost only", flushed, lost)
	}
}

// Promise 7: flushing changes nothing that is read.
func TestFlushingChangesNothingThatIsRead(t *testing.T) {
	d := dice(77)
	flushed := 0
	for _, w := range manyWalked(t, &d, 80) {
		r := impl.FlushEngine(w.engine)
		if r.Code != impl.OK {
			continue
		}
		flushed++
		checkCode(t, "EngineFault", impl.EngineFault(r.Engine), impl.OK)
		checkRowsResult(t, "AllRows", impl.AllRows(r.Engine), impl.AllRows(w.engine))
		checkSameReads(t, w.engine, r.Engine, farLow)
		if r.Engine.Next != w.engine.Next {
			t.Fatalf("%v flushed: Next %d", w.engine, r.Engine.Next)
		}
	}
	if flushed < 40 {
		t.Errorf("%d flushed only", flushed)
	}
}

// Promise 7: compacting changes nothing that is read from the floor on.
func TestCompactingChangesNothingFromTheFloorOn(t *testing.T) {
	d := dice(78)
	compacted, fewer := 0, 0
	for _, w := range manyWalked(t, &d, 120) {
		if impl.CompactEngine(w.engine, 0).Code != impl.OK {
			continue
		}
		floors := askedVersions(w.engine)
		for range 6 {
			floor := floors[d.below(int64(len(floors)))]
			r := impl.CompactEngine(w.engine, floor)
			checkCode(t, "CompactEngine", r.Code, impl.OK)
			checkCode(t, "EngineFault", impl.EngineFault(r.Engine), impl.OK)
			checkSameReads(t, w.engine, r.Engine, floor)
			compacted++
			if len(slices.Concat(r.Engine.Tables...)) < len(slices.Concat(w.engine.Tables...)) {
				fewer++
			}
			if r.Engine.Next != w.engine.Next || !sameLogs(r.Engine.Log, w.engine.Log) {
				t.Fatalf("%v compact: %v", w.engine, r.Engine)
			}
		}
	}
	if compacted < 100 || fewer < 50 {
		t.Errorf("%d compacted, %d with fewer rows only", compacted, fewer)
	}
}

func checkSameReads(t *testing.T, before, after impl.Engine, floor int64) {
	t.Helper()
	for _, key := range askedKeys {
		for _, version := range append(askedVersions(before), floor) {
			if version < floor {
				continue
			}
			if a, b := readRight(t, before, key, version), readRight(t, after, key, version); a != b {
				t.Fatalf("%v, floor %d: %q at %d is %v, was %v", before, floor, key, version, b, a)
			}
		}
	}
}

// Promise 7: for each kept, behind a crash all batches that were synced are
// there wholly, of the others the first ones, and nothing of the rest.
func TestBatchesOutlastACrash(t *testing.T) {
	d := dice(79)
	lost, left := 0, 0
	for _, w := range manyWalked(t, &d, 80) {
		synced := int64(len(w.engine.Log.Synced))
		told := -1
		for kept := range int64(len(w.engine.Log.Loose)) + 1 {
			n := w.wholeIn(synced + kept)
			r := impl.CrashEngine(w.engine, kept)
			want := engineOf(0, w.batches[:n], nil, w.engine.Tables...)
			want.Next = 1 + max(wantGreatest(want.Mem), wantGreatest(want.Tables...))
			checkEngine(t, "crashed", r, want)
			if n < w.wholeIn(synced) {
				t.Fatalf("%v, kept %d: %d batches", w.engine, kept, n)
			}
			if n != told {
				checkReadsOf(t, w, w.batches[:n], r.Engine)
			}
			told = n
			lost += len(w.batches) - n
			left += n - w.wholeIn(synced)
		}
		if t.Failed() {
			t.FailNow()
		}
	}
	if lost < 100 || left < 100 {
		t.Errorf("%d lost, %d left only", lost, left)
	}
}

// checkReadsOf asks that after tells just what the tables told and those
// batches say.
func checkReadsOf(t *testing.T, w walked, batches []batch, after impl.Engine) {
	t.Helper()
	base := w.base()
	for _, key := range askedKeys {
		for _, version := range askedVersions(w.engine) {
			want := seenBy(batches, key, version, readRight(t, base, key, version))
			if got := readRight(t, after, key, version); got != want {
				t.Fatalf("%v, %d batches left: %q at %d is %v, want %v", w.engine, len(batches), key, version, got, want)
			}
		}
	}
}

// Promise 7: a batch that was synced, and all that stood ahead of it, outlast
// a crash that keeps nothing; behind it engines are written on.
func TestSyncedBatchesAreThereWholly(t *testing.T) {
	d := dice(80)
	for _, w := range manyWalked(t, &d, 60) {
		list := d.writes(8)
		s := impl.WriteBatch(w.engine, list, true)
		crashed := impl.CrashEngine(s.Engine, 0)
		if crashed.Code != impl.OK || !sameEngines(crashed.Engine, s.Engine) {
			t.Fatalf("%v crashed: %v", s, crashed)
		}
		u := impl.WriteBatch(s.Engine, d.writes(8), false)
		for kept := range int64(len(u.Engine.Log.Loose)) {
			if r := impl.CrashEngine(u.Engine, kept); r.Code != impl.OK || !sameEngines(r.Engine, s.Engine) {
				t.Fatalf("%v crashed, kept %d: %v, want %v", u, kept, r, s.Engine)
			}
		}
		again := impl.WriteBatch(impl.CrashEngine(u.Engine, 1).Engine, list, false)
		if again.Code != impl.OK || again.Version != u.Version {
			t.Fatalf("%v crashed and written on: %v", u, again)
		}
	}
}

// engineArgs are right and wrong ones for the functions of chapter 6.
func engineArgs(t *testing.T) []impl.Engine {
	t.Helper()
	d := dice(81)
	a, b := batchOf(2, put("a", "x"), off("b")), batchOf(3, put("b", "y"))
	list := []impl.Engine{
		{}, {Next: 1}, {Next: 1000000}, {Next: farLow}, {Next: farHigh},
		{Log: logOf([]byte{}, []byte{}), Mem: []impl.Row{}, Tables: [][]impl.Row{}, Next: 1},
		engineOf(4, []batch{a}, []batch{b}, rows(row("a", 1, "o")), rows(row("c", 1, "o"))),
		engineOf(4, []batch{a, b}, nil, make([][]impl.Row, 6)...),
		engineOf(4, nil, []batch{a, b}, rows(), rows(), rows(), nil, rows(), rows(), rows()),
		engineOf(26, manyBatches(1, 200), nil), engineOf(27, nil, manyBatches(1, 201)),
		engineOf(5, nil, nil, manyRows(200, 1), manyRows(200, 2), manyRows(201, 3)),
		engineOf(4, []batch{b, a}, nil), engineOf(3, []batch{a, b}, nil),
		{Log: noughts(3000, 3001), Next: 1}, {Log: noughts(5, 5), Next: 1},
		{Mem: make([]impl.Row, 3), Tables: [][]impl.Row{make([]impl.Row, 3)}, Next: 1},
		fullLogEngine(6000), fullLogEngine(5990),
	}
	for _, w := range manyWalked(t, &d, 25) {
		list = append(list, w.engine)
	}
	for range 40 {
		list = append(list, d.anyEngine(t))
	}
	return list
}

// Promise 1: an answer at every argument that hangs on it alone, in new memory.
func TestEngineAnswersAreNewMemory(t *testing.T) {
	d := dice(82)
	for i, e := range engineArgs(t) {
		checkPure(t, "EngineFault", impl.EngineFault, e)
		checkPure(t, "AllRows", impl.AllRows, e)
		checkPure(t, "FlushEngine", impl.FlushEngine, e)
		for _, n := range []int64{farLow, 0, 2, int64(len(e.Log.Loose)), farHigh} {
			checkPure(t, "ReadKey", impl.ReadKey, e, "a", n)
			checkPure(t, "CompactEngine", impl.CompactEngine, e, n)
			checkPure(t, "CrashEngine", impl.CrashEngine, e, n)
		}
		checkPure(t, "WriteBatch", impl.WriteBatch, e, d.writes(8), i%2 == 0)
		checkPure(t, "WriteBatch", impl.WriteBatch, e, d.writes(8), i%2 == 1)
		checkPure(t, "WriteBatch", impl.WriteBatch, e, d.anyWrites(), true)
	}
}

func TestWriteAnswersAreNewMemory(t *testing.T) {
	d := dice(83)
	lists := [][]impl.Write{nil, {}, make([]impl.Write, 1), make([]impl.Write, 9), sizedWrites(500), sizedWrites(501), manyWrites(8, "v")}
	for range 100 {
		lists = append(lists, d.writes(8), d.anyWrites())
	}
	for _, list := range lists {
		checkPure(t, "WritesFault", impl.WritesFault, list)
		for _, version := range []int64{farLow, 0, 1, 1000000, 1000001, farHigh} {
			checkPure(t, "PackWrites", impl.PackWrites, version, list)
		}
		raw := rawWrites(7, list)
		checkPure(t, "UnpackWrites", impl.UnpackWrites, raw)
		checkPure(t, "UnpackWrites", impl.UnpackWrites, raw[:d.below(int64(len(raw)))])
	}
	checkPure(t, "UnpackWrites", impl.UnpackWrites, []byte(nil))
	checkPure(t, "UnpackWrites", impl.UnpackWrites, []byte{})
	for _, n := range edgeNumbers {
		checkPure(t, "NewEngine", impl.NewEngine, n)
	}
}

// Bytes and rows that lie in one piece of memory, each list with the next one
// as the room behind it, are not changed.
func TestEnginesOfOneMemoryAreNotChanged(t *testing.T) {
	d := dice(84)
	for _, w := range manyWalked(t, &d, 40) {
		e := oneMemory(w.engine)
		before := cloneEngine(e)
		list := d.writes(8)
		got := []any{
			impl.WriteBatch(e, list, true), impl.WriteBatch(e, list, false), impl.FlushEngine(e), impl.CompactEngine(e, 3),
			impl.CrashEngine(e, int64(len(e.Log.Loose)/2)), impl.AllRows(e), impl.ReadKey(e, "a", 5),
		}
		if !sameEngines(e, before) {
			t.Fatalf("%v is now %v", before, e)
		}
		want := []any{
			impl.WriteBatch(before, list, true), impl.WriteBatch(before, list, false), impl.FlushEngine(before), impl.CompactEngine(before, 3),
			impl.CrashEngine(before, int64(len(e.Log.Loose)/2)), impl.AllRows(before), impl.ReadKey(before, "a", 5),
		}
		if !reflect.DeepEqual(got, want) {
			t.Fatalf("%v: %v, want %v", before, got, want)
		}
	}
}

func oneMemory(e impl.Engine) impl.Engine {
	line := append(lineOf(e.Log), 0, 1, 1, 3, 1)
	at := len(e.Log.Synced)
	e.Log = logOf(line[:at], line[at:at+len(e.Log.Loose)])
	all := slices.Concat(append([][]impl.Row{e.Mem}, e.Tables...)...)
	at = len(e.Mem)
	e.Mem = all[:at]
	tables := make([][]impl.Row, 0, len(e.Tables)+4)
	for _, table := range e.Tables {
		tables = append(tables, all[at:at+len(table)])
		at += len(table)
	}
	e.Tables = tables
	return e
}

// Nil and what is empty are one value: they have one answer.
func TestEnginesOfNilAndEmpty(t *testing.T) {
	empty := impl.Engine{Log: logOf(make([]byte, 0, 4), []byte{}), Mem: make([]impl.Row, 0, 3), Tables: make([][]impl.Row, 0, 2), Next: 4}
	none := impl.Engine{Next: 4}
	two := impl.Engine{Tables: [][]impl.Row{nil, nil}, Next: 4}
	twoEmpty := impl.Engine{Tables: [][]impl.Row{{}, make([]impl.Row, 0, 5)}, Next: 4}
	list := writes(put("a", "x"))
	for _, p := range [][2]impl.Engine{{none, empty}, {two, twoEmpty}} {
		calls := []func(e impl.Engine) any{
			func(e impl.Engine) any { return impl.EngineFault(e) },
			func(e impl.Engine) any { return impl.WriteBatch(e, list, true) },
			func(e impl.Engine) any { return impl.WriteBatch(e, list, false) },
			func(e impl.Engine) any { return impl.WriteBatch(e, nil, false) },
			func(e impl.Engine) any { return impl.ReadKey(e, "a", 1) },
			func(e impl.Engine) any { return impl.FlushEngine(e) },
			func(e impl.Engine) any { return impl.CompactEngine(e, 1) },
			func(e impl.Engine) any { return impl.CrashEngine(e, 0) },
			func(e impl.Engine) any { return impl.AllRows(e) },
		}
		for i, call := range calls {
			if a, b := call(p[0]), call(p[1]); !reflect.DeepEqual(a, b) {
				t.Errorf("call %d: nil %v, empty %v", i, a, b)
			}
		}
	}
	pairs := [][2]any{
		{impl.WritesFault(nil), impl.WritesFault([]impl.Write{})},
		{impl.PackWrites(1, nil), impl.PackWrites(1, []impl.Write{})},
		{impl.UnpackWrites(nil), impl.UnpackWrites([]byte{})},
	}
	for i, p := range pairs {
		if !reflect.DeepEqual(p[0], p[1]) {
			t.Errorf("pair %d: nil %v, empty %v", i, p[0], p[1])
		}
	}
}
