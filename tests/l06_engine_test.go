package tests

import (
	"bytes"
	"slices"
	"strings"
	"testing"

	"loop.example/g00203/impl"
)

func TestWritesFault(t *testing.T) {
	k := func(n int) string { return strings.Repeat("k", n) }
	v := func(n int) string { return strings.Repeat("v", n) }
	ownGone := impl.Write{Key: "a", Value: "x", Gone: true}
	cases := []struct {
		name string
		list []impl.Write
		want int64
	}{
		{"none", nil, impl.ErrMany},
		{"none, empty", []impl.Write{}, impl.ErrMany},
		{"1", writes(put("a", "x")), impl.OK},
		{"1 that is gone", writes(off("a")), impl.OK},
		{"1 with an empty value", writes(put("a", "")), impl.OK},
		{"8", manyWrites(8, "x"), impl.OK},
		{"9", manyWrites(9, "x"), impl.ErrMany},
		{"9, none of them right", make([]impl.Write, 9), impl.ErrMany},
		{"very many", make([]impl.Write, 5000), impl.ErrMany},
		{"zero value", make([]impl.Write, 1), impl.ErrForm},
		{"8 zero values", make([]impl.Write, 8), impl.ErrForm},
		{"key of 20 bytes", writes(put(k(20), "x")), impl.OK},
		{"key of 21 bytes", writes(put(k(21), "x")), impl.ErrForm},
		{"key of 201 bytes", writes(put(k(201), "x")), impl.ErrForm},
		{"key of 256 bytes", writes(off(k(256))), impl.ErrForm},
		{"gone with a value", writes(ownGone), impl.ErrForm},
		{"value of 100 bytes", writes(put("a", v(100))), impl.OK},
		{"value of 101 bytes", writes(put("a", v(101))), impl.ErrMany},
		{"value of 256 bytes", writes(put("a", v(256))), impl.ErrMany},
		{"gone with a value that is too long", writes(impl.Write{Key: "a", Value: v(101), Gone: true}), impl.ErrForm},
		{"a key twice", writes(put("a", "x"), put("a", "x")), impl.ErrTaken},
		{"a key twice, otherwise", writes(put("a", "x"), put("b", "y"), off("a")), impl.ErrTaken},
		{"a key twice, at the ends of 8", append(manyWrites(7, "x"), put("aaa", "y")), impl.ErrTaken},
		{"keys that fall", writes(put("b", "x"), put("a", "x")), impl.OK},
		{"a beginning of another", writes(put("aa", "x"), put("a", "x"), put("a\x00", "x")), impl.OK},
		{"bytes of every kind", writes(put("\x00", "\x00\xff"), off("\xff")), impl.OK},
		{"just 500 bytes", sizedWrites(500), impl.OK},
		{"501 bytes", sizedWrites(501), impl.ErrMany},
		{"502 bytes", sizedWrites(502), impl.ErrMany},
		{"8 as long as may be", longWrites(8), impl.ErrMany},
		{"4 as long as may be", longWrites(4), impl.OK},
		{"write by write: form, then a key twice", writes(put("", "x"), put("a", "x"), put("a", "x")), impl.ErrForm},
		{"write by write: a key twice, then form", writes(put("a", "x"), put("a", "x"), put("", "x")), impl.ErrTaken},
		{"write by write: a long value, then form", writes(put("a", v(101)), put("", "x")), impl.ErrMany},
		{"write by write: form, then a long value", writes(put("", "x"), put("a", v(101))), impl.ErrForm},
		{"a write's own fault ahead of its key", writes(put("a", "x"), put("a", v(101))), impl.ErrMany},
		{"a write's own form ahead of its key", writes(put("a", "x"), ownGone), impl.ErrForm},
		{"a key twice ahead of all bytes", append(sizedWrites(600), put("a", "x")), impl.ErrTaken},
		{"form ahead of all bytes", append(sizedWrites(600), put("", "x")), impl.ErrForm},
	}
	for _, c := range cases {
		checkCode(t, c.name, impl.WritesFault(c.list), c.want)
		checkCode(t, c.name+", told once more", wantWritesFault(c.list), c.want)
		r := impl.PackWrites(1, c.list)
		if c.want != impl.OK {
			checkBytesCode(t, c.name+": PackWrites", r, c.want)
		} else {
			checkBytes(t, c.name+": PackWrites", r, rawWrites(1, c.list))
		}
	}
}

// longWrites have keys and values as long as may be.
func longWrites(n int) []impl.Write {
	var list []impl.Write
	for i := range n {
		list = append(list, put(strings.Repeat("k", 19)+string(rune('a'+i)), strings.Repeat("v", 100)))
	}
	return list
}

func TestPackWrites(t *testing.T) {
	checkBytes(t, "one", impl.PackWrites(1, writes(put("a", "x"))), []byte("\x00\x00\x00\x00\x00\x00\x00\x01\x00\x01a\x01x"))
	checkBytes(t, "gone", impl.PackWrites(2, writes(off("ab"))), []byte("\x00\x00\x00\x00\x00\x00\x00\x02\x01\x02ab"))
	checkBytes(t, "an empty value", impl.PackWrites(256, writes(put("a", ""))), []byte("\x00\x00\x00\x00\x00\x00\x01\x00\x00\x01a\x00"))
	checkBytes(t, "some, not sorted", impl.PackWrites(1000000, writes(put("b", "yy"), off("c"), put("a", ""))), []byte("\x00\x00\x00\x00\x00\x0f\x42\x40\x00\x01b\x02yy\x01\x01c\x00\x01a\x00"))
	if r := impl.PackWrites(1000000, sizedWrites(500)); r.Code != impl.OK || len(r.Bytes) != 500 {
		t.Errorf("500 bytes: code %d, %d bytes", r.Code, len(r.Bytes))
	}
	versions := map[int64]int64{farLow: impl.ErrRange, -1: impl.ErrRange, 0: impl.ErrRange, 1: impl.OK, 2: impl.OK, 999999: impl.OK, 1000000: impl.OK, 1000001: impl.ErrRange, farHigh: impl.ErrRange}
	for version, code := range versions {
		checkCode(t, "PackWrites of a version", impl.PackWrites(version, writes(put("a", "x"))).Code, code)
		if code == impl.ErrRange {
			for _, list := range [][]impl.Write{nil, writes(put("", "")), manyWrites(9, ""), writes(off("a"), off("a")), sizedWrites(501)} {
				checkBytesCode(t, "a version ahead of the writes", impl.PackWrites(version, list), impl.ErrRange)
			}
		}
	}
}

// Writes are read back, in their own order, of those that are gone and of
// those with a value.
func TestUnpackWritesReadsBack(t *testing.T) {
	d := dice(71)
	lists := [][]impl.Write{
		writes(put("a", "x")), writes(off("a")), writes(put("a", "")), writes(put("b", "1"), off("a")), manyWrites(8, "v"),
		sizedWrites(500), sizedWrites(499), longWrites(4), writes(put("\x00", "\x01\x01a"), put("\x01", "\x00")),
	}
	for range 300 {
		lists = append(lists, d.writes(8))
	}
	for _, list := range lists {
		for _, version := range []int64{1, 2, 255, 256, 999999, 1000000, 1 + d.below(1000000)} {
			p := impl.PackWrites(version, list)
			checkRows(t, "read back", impl.UnpackWrites(p.Bytes), batchOf(version, list...).rows()...)
		}
	}
}

func TestUnpackWritesOfNone(t *testing.T) {
	one := writes(put("a", "x"))
	raw := func(version int64, list ...impl.Write) []byte { return rawWrites(version, list) }
	tail := func(tail string) []byte { return append(wantNumber(1), tail...) }
	cases := []struct {
		name string
		data []byte
	}{
		{"none at all", nil},
		{"none, empty", []byte{}},
		{"7 bytes", make([]byte, 7)},
		{"8 bytes of 0", make([]byte, 8)},
		{"a version alone", wantNumber(1)},
		{"version 0", raw(0, one...)},
		{"version -1", raw(-1, one...)},
		{"version MaxVersion and 1", raw(1000001, one...)},
		{"a version far below", raw(farLow, one...)},
		{"a version far above", raw(farHigh, one...)},
		{"9 writes", raw(1, manyWrites(9, "")...)},
		{"a key twice", raw(1, put("a", "x"), off("a"))},
		{"a key of 0 bytes", raw(1, put("", "x"))},
		{"a key of 0 bytes, gone", raw(1, off(""))},
		{"a key of 21 bytes", raw(1, off(strings.Repeat("k", 21)))},
		{"a key of 255 bytes", raw(1, off(strings.Repeat("k", 255)))},
		{"a value of 101 bytes", raw(1, put("a", strings.Repeat("v", 101)))},
		{"501 bytes", raw(1, sizedWrites(501)...)},
		{"very many bytes", bytes.Repeat([]byte{0, 1, 'a', 0}, 5000)},
		{"a mark alone", tail("\x01")},
		{"a mark and a count", tail("\x01\x01")},
		{"a count that is too great", tail("\x01\x02a")},
		{"a count that is too small", tail("\x01\x01ab")},
		{"a key without a value", tail("\x00\x01a")},
		{"a value's count that is too great", tail("\x00\x01a\x02x")},
		{"a value's count that is too small", tail("\x00\x01a\x01xy")},
		{"a count of 255", tail("\x01\xffa")},
		{"gone with a value", tail("\x01\x01a\x01x")},
		{"gone with an empty value", tail("\x01\x01a\x00")},
		{"a byte 2", tail("\x02\x01a")},
		{"a byte 2 with a value", tail("\x02\x01a\x01x")},
		{"a byte 255", tail("\xff\x01a\x01x")},
		{"a wrong byte in the second", append(raw(1, one...), "\x02\x01b\x01x"...)},
		{"one more behind the second", append(raw(1, off("a"), off("b")), 0)},
	}
	for _, c := range cases {
		checkRowsCode(t, c.name, impl.UnpackWrites(c.data), impl.ErrText)
		checkRowsCode(t, c.name+", told once more", wantUnpackWrites(c.data), impl.ErrText)
	}
}

// Of all other bytes ErrText is told: one cut off, one more, one changed.
func TestUnpackWritesOfBytesBesides(t *testing.T) {
	d := dice(72)
	read, none := 0, 0
	check := func(data []byte) {
		t.Helper()
		want := wantUnpackWrites(data)
		checkRowsResult(t, "bytes besides", impl.UnpackWrites(data), want)
		if want.Code == impl.OK {
			read++
		} else {
			none++
		}
	}
	for _, w := range writes(put("a", "x"), off("key"), put("key", ""), put("k", strings.Repeat("v", 100))) {
		data := rawWrites(77, writes(w))
		for size := range data {
			checkRowsCode(t, "one write, cut off", impl.UnpackWrites(data[:size]), impl.ErrText)
		}
		for b := range 256 {
			checkRowsCode(t, "one write, one more", impl.UnpackWrites(append(slices.Clone(data), byte(b))), impl.ErrText)
		}
	}
	for range 12 {
		data := rawWrites(1+d.below(1000000), d.writes(3))
		for size := range data {
			check(data[:size])
		}
		for at := range data {
			for b := range 256 {
				changed := slices.Clone(data)
				changed[at] = byte(b)
				check(changed)
			}
			check(slices.Delete(slices.Clone(data), at, at+1))
			check(slices.Insert(slices.Clone(data), at, byte(d.below(4))))
		}
	}
	if read < 500 || none < 10000 {
		t.Errorf("%d read, %d not only", read, none)
	}
}

func TestNewEngine(t *testing.T) {
	for _, next := range []int64{1, 2, 999999, 1000000} {
		checkEngine(t, "NewEngine", impl.NewEngine(next), impl.Engine{Next: next})
	}
	for _, next := range []int64{farLow, -1, 0, 1000001, farHigh} {
		checkEngineCode(t, "NewEngine", impl.NewEngine(next), impl.ErrRange)
	}
}

func TestEngineWithoutAFault(t *testing.T) {
	a2, b3, a5 := batchOf(2, put("a", "x"), off("b")), batchOf(3, put("b", "y")), batchOf(5, off("a"))
	old := rows(row("a", 1, "o"), row("c", 1, "o"))
	straddling := engineOf(9, []batch{a2, b3}, nil)
	straddling.Log = logOf(straddling.Log.Synced[:7], straddling.Log.Synced[7:])
	cases := []struct {
		name string
		e    impl.Engine
	}{
		{"a new one", impl.Engine{Next: 1}},
		{"the last Next", impl.Engine{Next: 1000000}},
		{"empty lists", impl.Engine{Log: logOf([]byte{}, []byte{}), Mem: []impl.Row{}, Tables: [][]impl.Row{}, Next: 1}},
		{"synced", engineOf(3, []batch{a2}, nil)},
		{"loose", engineOf(3, nil, []batch{a2})},
		{"both, with gaps", engineOf(9, []batch{a2, b3}, []batch{a5})},
		{"a record that begins synced and ends loose", straddling},
		{"with a table", engineOf(6, []batch{a2, b3}, []batch{a5}, old)},
		{"a table alone", engineOf(2, nil, nil, old)},
		{"tables in any order", engineOf(9, nil, nil, old, rows(row("a", 8, "")), rows(row("a", 3, "")))},
		{"tables with one row in common", engineOf(2, nil, nil, old, old)},
		{"6 tables", engineOf(6, []batch{a2}, []batch{a5}, old, old, nil, rows(), old, rows(gone("z", 1)))},
		{"6 tables, all empty", engineOf(1, nil, nil, make([][]impl.Row, 6)...)},
		{"MaxRows in Mem", engineOf(26, manyBatches(1, 200), nil)},
		{"MaxRows in each table", engineOf(4, nil, nil, manyRows(200, 1), manyRows(200, 2), manyRows(200, 3))},
		{"a row just below Next", engineOf(6, nil, []batch{a5})},
		{"a table's row just below Next", engineOf(2, nil, nil, old)},
		{"a version just below MaxVersion", engineOf(1000000, []batch{batchOf(999999, put("a", "x"))}, nil)},
		{"Mem just above the tables", engineOf(9, nil, []batch{b3}, rows(gone("z", 2)))},
		{"a log of MaxBytes", fullLogEngine(6000)},
	}
	for _, c := range cases {
		checkCode(t, c.name, impl.EngineFault(c.e), impl.OK)
		checkCode(t, c.name+", told once more", wantEngineFault(c.e), impl.OK)
	}
}

// manyBatches have that many rows in all, at most 8 in each.
func manyBatches(version int64, n int) []batch {
	var list []batch
	for all := manyWrites(n, "v"); len(all) > 0; version++ {
		size := min(8, len(all))
		list = append(list, batchOf(version, all[:size]...))
		all = all[size:]
	}
	return list
}

// fullLogEngine has that many bytes in its log, in batches of up to 500.
func fullLogEngine(size int) impl.Engine {
	var list []batch
	for size > 0 {
		part := min(size, 504)
		if left := size - part; left > 0 && left < 40 {
			part -= 40
		}
		list = append(list, batchOf(int64(len(list)+1), sizedWrites(part-4)...))
		size -= part
	}
	return engineOf(int64(len(list)+1), list, nil)
}

func TestEngineFaults(t *testing.T) {
	a2, b3, a5 := batchOf(2, put("a", "x"), off("b")), batchOf(3, put("b", "y")), batchOf(5, off("a"))
	old := rows(row("a", 1, "o"), row("c", 1, "o"))
	right := func() impl.Engine { return engineOf(6, []batch{a2, b3}, []batch{a5}, slices.Clone(old)) }
	changed := func(change func(e *impl.Engine)) impl.Engine {
		e := right()
		change(&e)
		return e
	}
	cases := []struct {
		name string
		want int64
		e    impl.Engine
	}{
		{"the zero value", impl.ErrRange, impl.Engine{}},
		{"a log that is too long", impl.ErrMany, changed(func(e *impl.Engine) { e.Log = noughts(3000, 3001) })},
		{"MaxRows and one more in Mem", impl.ErrMany, engineOf(27, manyBatches(1, 201), nil)},
		{"MaxRows and one more in a table", impl.ErrMany, engineOf(2, nil, nil, nil, manyRows(201, 1))},
		{"7 tables", impl.ErrMany, changed(func(e *impl.Engine) { e.Tables = slices.Repeat(e.Tables, 7) })},
		{"7 empty tables", impl.ErrMany, engineOf(1, nil, nil, make([][]impl.Row, 7)...)},
		{"a wrong row in Mem", impl.ErrForm, changed(func(e *impl.Engine) { e.Mem[0].Key = "" })},
		{"a long value in Mem", impl.ErrMany, changed(func(e *impl.Engine) { e.Mem[1].Value = strings.Repeat("v", 101) })},
		{"a version of 0 in Mem", impl.ErrRange, changed(func(e *impl.Engine) { e.Mem[0].Version = 0 })},
		{"Mem out of order", impl.ErrForm, changed(func(e *impl.Engine) { slices.Reverse(e.Mem) })},
		{"a wrong row in a table", impl.ErrForm, changed(func(e *impl.Engine) { e.Tables[0][0].Key = "" })},
		{"a table out of order", impl.ErrForm, changed(func(e *impl.Engine) { slices.Reverse(e.Tables[0]) })},
		{"a long value in a table", impl.ErrMany, changed(func(e *impl.Engine) { e.Tables[0][1].Value = strings.Repeat("v", 101) })},
		{"Next 0", impl.ErrRange, impl.Engine{Next: 0}},
		{"Next -1", impl.ErrRange, impl.Engine{Next: -1}},
		{"Next far below", impl.ErrRange, impl.Engine{Next: farLow}},
		{"Next above MaxVersion", impl.ErrRange, impl.Engine{Next: 1000001}},
		{"Next far above", impl.ErrRange, impl.Engine{Next: farHigh}},
		{"Next that a row of Mem has", impl.ErrRange, changed(func(e *impl.Engine) { e.Next = 5 })},
		{"Next below a row of Mem", impl.ErrRange, changed(func(e *impl.Engine) { e.Next = 4 })},
		{"Next that a table's row has", impl.ErrRange, engineOf(1, nil, nil, old)},
		{"Next that a row of the last table has", impl.ErrRange, engineOf(4, nil, nil, old, old, old, old, old, rows(gone("z", 4)))},
		{"a row of MaxVersion", impl.ErrRange, engineOf(1000000, nil, nil, rows(row("a", 1000000, "")))},
		{"a torn end, loose", impl.ErrForm, changed(func(e *impl.Engine) { e.Log.Loose = append(e.Log.Loose, 0) })},
		{"a torn end, synced", impl.ErrForm, changed(func(e *impl.Engine) { e.Log = logOf(append(lineOf(e.Log), 0, 9), nil) })},
		{"a byte cut off", impl.ErrForm, changed(func(e *impl.Engine) { e.Log.Loose = e.Log.Loose[:len(e.Log.Loose)-1] })},
		{"a byte changed", impl.ErrForm, changed(func(e *impl.Engine) { e.Log.Synced[3]++ })},
		{"bytes that are none", impl.ErrForm, impl.Engine{Log: noughts(9, 0), Next: 1}},
		{"a record that is none", impl.ErrForm, changed(func(e *impl.Engine) { e.Log.Loose = append(e.Log.Loose, wantFrame([]byte{1})...) })},
		{"a record of 8 bytes", impl.ErrForm, impl.Engine{Log: logOf(wantFrame(wantNumber(1)), nil), Next: 9}},
		{"a record of a version of 0", impl.ErrForm, impl.Engine{Log: logOf(batchOf(0, put("a", "x")).frame(), nil), Next: 9}},
		{"a record whose version is Next, not in Mem", impl.ErrForm, changed(func(e *impl.Engine) { e.Log.Loose = append(e.Log.Loose, batchOf(6, put("a", "x")).frame()...) })},
		{"a record whose version is above Next, not in Mem", impl.ErrForm, changed(func(e *impl.Engine) { e.Log.Loose = append(e.Log.Loose, batchOf(7, put("a", "x")).frame()...) })},
		{"a record whose version is Next, in Mem", impl.ErrRange, engineOf(5, nil, []batch{a5})},
		{"records whose versions fall", impl.ErrForm, engineOf(6, []batch{b3, a2}, nil)},
		{"records whose versions fall, at the sync", impl.ErrForm, engineOf(6, []batch{b3}, []batch{a2})},
		{"records of one version", impl.ErrForm, engineOf(6, []batch{batchOf(2, put("a", "x"))}, []batch{batchOf(2, put("b", "x"))})},
		{"one record twice", impl.ErrForm, changed(func(e *impl.Engine) { e.Log.Loose = append(e.Log.Loose, e.Log.Loose...) })},
		{"Mem has a row too many", impl.ErrForm, changed(func(e *impl.Engine) { e.Mem = append(e.Mem, row("z", 4, "")) })},
		{"Mem has a row too few", impl.ErrForm, changed(func(e *impl.Engine) { e.Mem = e.Mem[1:] })},
		{"Mem has no rows", impl.ErrForm, changed(func(e *impl.Engine) { e.Mem = nil })},
		{"Mem has another value", impl.ErrForm, changed(func(e *impl.Engine) { e.Mem[1].Value = "y" })},
		{"Mem has a value for what is gone", impl.ErrForm, changed(func(e *impl.Engine) { e.Mem[0].Gone = false })},
		{"Mem has another key", impl.ErrForm, changed(func(e *impl.Engine) { e.Mem[3].Key = "bb" })},
		{"Mem has another version", impl.ErrForm, changed(func(e *impl.Engine) { e.Mem[0].Version = 4 })},
		{"Mem without a log", impl.ErrForm, changed(func(e *impl.Engine) { e.Log = impl.Log{} })},
		{"MaxRows in Mem, one more in the log", impl.ErrForm, changed(func(e *impl.Engine) {
			*e = engineOf(27, manyBatches(1, 201), nil)
			e.Mem = e.Mem[:200]
		})},
		{"a Version of Mem that a table has", impl.ErrForm, engineOf(6, []batch{a2}, nil, rows(gone("z", 2)))},
		{"a Version of Mem below one of a table", impl.ErrForm, engineOf(6, []batch{a2}, nil, rows(gone("z", 3)))},
		{"one Version of Mem not above the last table's", impl.ErrForm, engineOf(6, []batch{a2, b3}, []batch{a5}, nil, old, rows(gone("z", 2)))},
		{"the same rows in Mem and in a table", impl.ErrForm, engineOf(6, []batch{a2}, nil, rowsOfBatches([]batch{a2}))},
	}
	for _, c := range cases {
		checkEngineFaulted(t, c.name, c.e, c.want)
		checkCode(t, c.name+", told once more", wantEngineFault(c.e), c.want)
	}
}

// Where several faults are so, that which the chapter names first is told.
func TestEngineFaultsInOrder(t *testing.T) {
	// Each change brings one fault in, in the chapter's order.
	changes := []struct {
		code   int64
		change func(e *impl.Engine)
	}{
		{impl.ErrMany, func(e *impl.Engine) { e.Log.Synced = append(e.Log.Synced, make([]byte, 6000)...) }},
		{impl.ErrRange, func(e *impl.Engine) { e.Mem[0].Version = farHigh }},
		{impl.ErrMany, func(e *impl.Engine) {
			for len(e.Tables) < 7 {
				e.Tables = append(e.Tables, nil)
			}
		}},
		{impl.ErrForm, func(e *impl.Engine) { e.Tables[0][0].Key = "" }},
		{impl.ErrRange, func(e *impl.Engine) { e.Tables[1][0].Version = 0 }},
		{impl.ErrRange, func(e *impl.Engine) { e.Next = 1 }},
		{impl.ErrForm, func(e *impl.Engine) { e.Log.Synced[3]++ }},
		{impl.ErrForm, func(e *impl.Engine) { e.Mem = e.Mem[:1] }},
		{impl.ErrForm, func(e *impl.Engine) { e.Tables[2][0].Version = 2 }},
	}
	right := engineOf(3, []batch{batchOf(2, put("a", "x"), put("b", "y"))}, nil, rows(row("a", 1, "")), rows(row("a", 1, "")), rows(row("a", 1, "")))
	checkCode(t, "without a change", impl.EngineFault(right), impl.OK)
	for set := range 1 << len(changes) {
		e := cloneEngine(right)
		want := int64(impl.OK)
		for i, c := range changes {
			if set&(1<<i) == 0 {
				continue
			}
			c.change(&e)
			if want == impl.OK {
				want = c.code
			}
		}
		checkCode(t, "EngineFault of several", impl.EngineFault(e), want)
		checkCode(t, "EngineFault of several, told once more", wantEngineFault(e), want)
	}
}

func TestWriteBatch(t *testing.T) {
	first, second := writes(put("b", "1"), put("a", "2")), writes(off("b"), put("c", ""))
	old := rows(row("a", 1, "o"))
	e := engineOf(7, nil, nil, old)
	r := impl.WriteBatch(e, first, false)
	checkEngineResult(t, "loose", r, impl.EngineResult{Version: 7, Engine: engineOf(8, nil, []batch{batchOf(7, first...)}, old)})
	both := []batch{batchOf(7, first...), batchOf(8, second...)}
	checkEngineResult(t, "loose, twice", impl.WriteBatch(r.Engine, second, false), impl.EngineResult{Version: 8, Engine: engineOf(9, nil, both, old)})
	checkEngineResult(t, "synced with the loose one ahead", impl.WriteBatch(r.Engine, second, true), impl.EngineResult{Version: 8, Engine: engineOf(9, both, nil, old)})
	r = impl.WriteBatch(e, first, true)
	checkEngineResult(t, "synced", r, impl.EngineResult{Version: 7, Engine: engineOf(8, both[:1], nil, old)})
	checkEngineResult(t, "synced, then loose", impl.WriteBatch(r.Engine, second, false), impl.EngineResult{Version: 8, Engine: engineOf(9, both[:1], both[1:], old)})
	checkRows(t, "Mem is in order", impl.RowsResult{Rows: impl.WriteBatch(r.Engine, second, false).Engine.Mem}, row("a", 7, "2"), gone("b", 8), row("b", 7, "1"), row("c", 8, ""))
	last := impl.WriteBatch(impl.NewEngine(999999).Engine, first, false)
	checkEngineResult(t, "the last version", last, impl.EngineResult{Version: 999999, Engine: engineOf(1000000, nil, []batch{batchOf(999999, first...)})})
	checkEngineCode(t, "behind the last version", impl.WriteBatch(last.Engine, second, false), impl.ErrRange)
}

func TestWriteBatchCodes(t *testing.T) {
	one := writes(put("a", "x"))
	wrong := map[int64][]impl.Write{impl.ErrForm: writes(put("", "x")), impl.ErrMany: nil, impl.ErrTaken: writes(put("a", "x"), off("a"))}
	full := fullLogEngine(6000)
	fullAtLast := cloneEngine(full)
	fullAtLast.Next = 1000000
	engines := map[string]impl.Engine{
		"a new one": {Next: 1}, "Next at MaxVersion": {Next: 1000000}, "a full log": full, "a full log, and Next at MaxVersion": fullAtLast,
		"MaxRows": engineOf(26, manyBatches(1, 200), nil), "6 tables": engineOf(1, nil, nil, make([][]impl.Row, 6)...),
	}
	for name, e := range engines {
		for code, list := range wrong {
			checkEngineCode(t, name+", wrong writes", impl.WriteBatch(e, list, true), code)
		}
		checkEngineCode(t, name+", 501 bytes", impl.WriteBatch(e, sizedWrites(501), false), impl.ErrMany)
	}
	for _, sync := range []bool{false, true} {
		checkEngineCode(t, "Next at MaxVersion", impl.WriteBatch(impl.Engine{Next: 1000000}, one, sync), impl.ErrRange)
		checkEngineCode(t, "Next at MaxVersion ahead of a full log", impl.WriteBatch(fullAtLast, one, sync), impl.ErrRange)
		checkEngineCode(t, "a full log", impl.WriteBatch(full, one, sync), impl.ErrMany)
		checkCode(t, "6 tables are no fault", impl.WriteBatch(engines["6 tables"], one, sync).Code, impl.OK)
	}
}

// What comes just to MaxBytes, or to MaxRows, has room.
func TestWriteBatchUpToTheBounds(t *testing.T) {
	for _, size := range []int{13, 100, 499, 500} {
		list := sizedWrites(size)
		for _, sync := range []bool{false, true} {
			just, over := fullLogEngine(6000-size-4), fullLogEngine(6001-size-4)
			checkEngineResult(t, "just MaxBytes", impl.WriteBatch(just, list, sync), wantWriteBatch(just, list, sync))
			checkCode(t, "just MaxBytes", impl.WriteBatch(just, list, sync).Code, impl.OK)
			checkEngineCode(t, "a byte more", impl.WriteBatch(over, list, sync), impl.ErrMany)
		}
	}
	for n := 1; n <= 8; n++ {
		list := manyWrites(n, "w")
		just, over := engineOf(99, nil, manyBatches(1, 200-n)), engineOf(99, manyBatches(1, 201-n), nil)
		r := impl.WriteBatch(just, list, n%2 == 0)
		checkEngineResult(t, "just MaxRows", r, wantWriteBatch(just, list, n%2 == 0))
		if r.Code != impl.OK || len(r.Engine.Mem) != 200 {
			t.Errorf("just MaxRows: code %d, %d rows", r.Code, len(r.Engine.Mem))
		}
		checkEngineCode(t, "a row more", impl.WriteBatch(over, list, n%2 == 0), impl.ErrMany)
	}
}

// Rows of Tables do not count where Mem has room.
func TestWriteBatchBesideFullTables(t *testing.T) {
	e := engineOf(5, nil, nil, manyRows(200, 4), manyRows(200, 3))
	r := impl.WriteBatch(e, writes(put("z", "x")), true)
	checkEngineResult(t, "full tables", r, impl.EngineResult{Version: 5, Engine: engineOf(6, []batch{batchOf(5, put("z", "x"))}, nil, e.Tables...)})
	checkRowsCode(t, "AllRows then", impl.AllRows(r.Engine), impl.ErrMany)
	checkText(t, "ReadKey then", impl.ReadKey(r.Engine, "z", 9), impl.TextResult{Code: impl.ErrMany})
	checkCode(t, "FlushEngine then", impl.FlushEngine(r.Engine).Code, impl.OK)
	checkCode(t, "CrashEngine then", impl.CrashEngine(r.Engine, 0).Code, impl.OK)
	checkEngineCode(t, "CompactEngine then", impl.CompactEngine(r.Engine, 9), impl.ErrMany)
}

func TestReadKeyAndAllRows(t *testing.T) {
	e := engineOf(9, []batch{batchOf(5, put("a", "5"), off("b"))}, []batch{batchOf(7, off("a"), put("d", ""))},
		rows(row("a", 3, "3"), row("b", 3, "b")), rows(row("a", 3, "other"), row("a", 1, "1"), gone("c", 2), row("c", 1, "c")))
	checkRows(t, "AllRows", impl.AllRows(e), gone("a", 7), row("a", 5, "5"), row("a", 3, "3"), row("a", 1, "1"), gone("b", 5), row("b", 3, "b"), gone("c", 2), row("c", 1, "c"), row("d", 7, ""))
	cases := []struct {
		key     string
		version int64
		want    impl.TextResult
	}{
		{"a", farHigh, impl.TextResult{Code: impl.ErrNone}}, {"a", 7, impl.TextResult{Code: impl.ErrNone}},
		{"a", 6, impl.TextResult{Text: "5"}}, {"a", 5, impl.TextResult{Text: "5"}}, {"a", 4, impl.TextResult{Text: "3"}},
		{"a", 3, impl.TextResult{Text: "3"}}, {"a", 2, impl.TextResult{Text: "1"}}, {"a", 1, impl.TextResult{Text: "1"}},
		{"a", 0, impl.TextResult{Code: impl.ErrNone}}, {"a", farLow, impl.TextResult{Code: impl.ErrNone}},
		{"b", 5, impl.TextResult{Code: impl.ErrNone}}, {"b", 4, impl.TextResult{Text: "b"}}, {"b", 2, impl.TextResult{Code: impl.ErrNone}},
		{"c", 9, impl.TextResult{Code: impl.ErrNone}}, {"c", 1, impl.TextResult{Text: "c"}},
		{"d", 7, impl.TextResult{}}, {"d", 6, impl.TextResult{Code: impl.ErrNone}},
		{"", 9, impl.TextResult{Code: impl.ErrNone}}, {"e", 9, impl.TextResult{Code: impl.ErrNone}}, {strings.Repeat("a", 30), 9, impl.TextResult{Code: impl.ErrNone}},
	}
	for _, c := range cases {
		checkText(t, c.key, impl.ReadKey(e, c.key, c.version), c.want)
	}
	checkRows(t, "AllRows of a new one", impl.AllRows(impl.Engine{Next: 1}))
	checkText(t, "ReadKey of a new one", impl.ReadKey(impl.Engine{Next: 1}, "a", 1), impl.TextResult{Code: impl.ErrNone})
}

func TestAllRowsUpToMaxRows(t *testing.T) {
	mem := manyBatches(2, 80)
	full := engineOf(99, mem, nil, manyRows(120, 1))
	if r := impl.AllRows(full); r.Code != impl.OK || len(r.Rows) != 200 {
		t.Errorf("just MaxRows: code %d, %d rows", r.Code, len(r.Rows))
	}
	checkText(t, "just MaxRows", impl.ReadKey(full, "aaa", 1), impl.TextResult{Text: "v"})
	over := engineOf(99, mem, nil, manyRows(121, 1))
	checkRowsCode(t, "one more", impl.AllRows(over), impl.ErrMany)
	checkText(t, "one more", impl.ReadKey(over, "aaa", 1), impl.TextResult{Code: impl.ErrMany})
	same := engineOf(99, nil, nil, slices.Repeat([][]impl.Row{manyRows(200, 1)}, 6)...)
	checkRows(t, "6 times the same", impl.AllRows(same), manyRows(200, 1)...)
}

func TestFlushEngine(t *testing.T) {
	b := []batch{batchOf(4, put("a", "x"), off("b"))}
	mem := rowsOfBatches(b)
	old := rows(row("a", 1, "o"))
	checkEngine(t, "synced", impl.FlushEngine(engineOf(9, b, nil)), engineOf(9, nil, nil, mem))
	checkEngine(t, "loose", impl.FlushEngine(engineOf(9, nil, b)), engineOf(9, nil, nil, mem))
	checkEngine(t, "the youngest first", impl.FlushEngine(engineOf(9, b, nil, nil, old)), engineOf(9, nil, nil, mem, nil, old))
	checkEngine(t, "5 tables", impl.FlushEngine(engineOf(9, b, nil, old, old, old, old, old)), engineOf(9, nil, nil, mem, old, old, old, old, old))
	checkEngine(t, "Next at MaxVersion", impl.FlushEngine(engineOf(1000000, b, nil)), engineOf(1000000, nil, nil, mem))
	checkEngineCode(t, "6 tables", impl.FlushEngine(engineOf(9, b, nil, make([][]impl.Row, 6)...)), impl.ErrMany)
	checkEngineCode(t, "Mem empty", impl.FlushEngine(engineOf(9, nil, nil, old)), impl.ErrNone)
	checkEngineCode(t, "Mem empty, and 6 tables", impl.FlushEngine(engineOf(9, nil, nil, old, old, old, old, old, old)), impl.ErrNone)
	checkEngineCode(t, "a new one", impl.FlushEngine(impl.Engine{Next: 1}), impl.ErrNone)
	twice := impl.FlushEngine(impl.FlushEngine(engineOf(9, b, nil)).Engine)
	checkEngineCode(t, "twice", twice, impl.ErrNone)
}

func TestCompactEngine(t *testing.T) {
	b, loose := []batch{batchOf(7, put("a", "x"))}, []batch{batchOf(8, off("c"))}
	young, old := rows(row("a", 6, "6"), gone("b", 5)), rows(row("a", 6, "other"), row("a", 2, "2"), row("b", 3, "b"), row("c", 1, "c"))
	all := rows(young[0], old[1], young[1], old[2], old[3])
	e := engineOf(9, b, loose, young, old)
	checkEngine(t, "floor far below", impl.CompactEngine(e, farLow), engineOf(9, b, loose, all))
	checkEngine(t, "floor 0", impl.CompactEngine(e, 0), engineOf(9, b, loose, all))
	checkEngine(t, "floor 4", impl.CompactEngine(e, 4), engineOf(9, b, loose, all))
	checkEngine(t, "floor 5", impl.CompactEngine(e, 5), engineOf(9, b, loose, rows(young[0], old[1], old[3])))
	checkEngine(t, "floor 6", impl.CompactEngine(e, 6), engineOf(9, b, loose, rows(young[0], old[3])))
	checkEngine(t, "floor far above", impl.CompactEngine(e, farHigh), engineOf(9, b, loose, rows(young[0], old[3])))
	checkEngine(t, "6 tables", impl.CompactEngine(engineOf(9, b, loose, nil, young, nil, old, young, old), 6), engineOf(9, b, loose, rows(young[0], old[3])))
	checkEngine(t, "nothing left", impl.CompactEngine(engineOf(9, b, nil, rows(gone("a", 3)), rows(row("a", 1, ""))), 3), engineOf(9, b, nil, nil))
	checkEngine(t, "2 empty tables", impl.CompactEngine(engineOf(1, nil, nil, nil, nil), 3), engineOf(1, nil, nil, nil))
	checkEngineCode(t, "1 table", impl.CompactEngine(engineOf(9, b, loose, old), 5), impl.ErrNone)
	checkEngineCode(t, "no tables", impl.CompactEngine(engineOf(9, b, loose), 5), impl.ErrNone)
	checkEngineCode(t, "1 table of MaxRows", impl.CompactEngine(engineOf(9, nil, nil, manyRows(200, 1)), 5), impl.ErrNone)
	checkEngine(t, "just MaxRows", impl.CompactEngine(engineOf(9, b, nil, manyRows(100, 2), manyRows(100, 1)), 9), engineOf(9, b, nil, manyRows(100, 2)))
	checkEngineCode(t, "one more, though few were left", impl.CompactEngine(engineOf(9, b, nil, manyRows(101, 2), manyRows(100, 1)), 9), impl.ErrMany)
	checkEngine(t, "rows of Mem do not count", impl.CompactEngine(engineOf(99, manyBatches(10, 200), nil, manyRows(100, 2), manyRows(100, 1)), 2), engineOf(99, manyBatches(10, 200), nil, manyRows(100, 2)))
}

func TestCrashEngine(t *testing.T) {
	a, b, c := batchOf(4, put("a", "x"), off("b")), batchOf(5, put("b", "y")), batchOf(8, off("a"), put("c", "z"))
	old := rows(row("a", 2, "o"))
	e := engineOf(9, []batch{a}, []batch{b, c}, old)
	first, all := int64(len(b.frame())), int64(len(frames([]batch{b, c})))
	checkEngine(t, "nothing kept", impl.CrashEngine(e, 0), engineOf(5, []batch{a}, nil, old))
	checkEngine(t, "a byte kept", impl.CrashEngine(e, 1), engineOf(5, []batch{a}, nil, old))
	checkEngine(t, "all but a byte of the first", impl.CrashEngine(e, first-1), engineOf(5, []batch{a}, nil, old))
	checkEngine(t, "just the first", impl.CrashEngine(e, first), engineOf(6, []batch{a, b}, nil, old))
	checkEngine(t, "a byte of the second", impl.CrashEngine(e, first+1), engineOf(6, []batch{a, b}, nil, old))
	checkEngine(t, "all but a byte", impl.CrashEngine(e, all-1), engineOf(6, []batch{a, b}, nil, old))
	checkEngine(t, "all kept", impl.CrashEngine(e, all), engineOf(9, []batch{a, b, c}, nil, old))
	for _, kept := range []int64{farLow, -1, all + 1, farHigh} {
		checkEngineCode(t, "kept", impl.CrashEngine(e, kept), impl.ErrRange)
	}
	straddling := cloneEngine(e)
	straddling.Log = logOf(straddling.Log.Synced[:5], append(straddling.Log.Synced[5:], straddling.Log.Loose...))
	checkEngine(t, "a record that was synced in part", impl.CrashEngine(straddling, 3), engineOf(3, nil, nil, old))
	checkEngine(t, "a record that was synced in part, kept", impl.CrashEngine(straddling, int64(len(a.frame())-5)), engineOf(5, []batch{a}, nil, old))
}

// Next behind a crash hangs on the rows that are left alone.
func TestVersionsBehindACrash(t *testing.T) {
	b := batchOf(50, put("a", "x"))
	checkEngine(t, "a new one", impl.CrashEngine(impl.Engine{Next: 1}, 0), impl.Engine{Next: 1})
	checkEngine(t, "a new one of a later Next", impl.CrashEngine(impl.Engine{Next: 50}, 0), impl.Engine{Next: 1})
	checkEngine(t, "one of the last Next", impl.CrashEngine(impl.Engine{Next: 1000000}, 0), impl.Engine{Next: 1})
	checkEngine(t, "all is lost", impl.CrashEngine(engineOf(51, nil, []batch{b}), 0), impl.Engine{Next: 1})
	checkEngine(t, "all is lost, empty tables", impl.CrashEngine(engineOf(51, nil, []batch{b}, nil, nil), 0), engineOf(1, nil, nil, nil, nil))
	checkEngine(t, "only tables are left", impl.CrashEngine(engineOf(51, nil, []batch{b}, rows(row("a", 7, "")), rows(row("a", 9, ""), row("b", 3, ""))), 0), engineOf(10, nil, nil, rows(row("a", 7, "")), rows(row("a", 9, ""), row("b", 3, ""))))
	checkEngine(t, "a row of Tables that is gone has the greatest", impl.CrashEngine(engineOf(51, nil, nil, rows(gone("a", 30), row("b", 3, ""))), 0), engineOf(31, nil, nil, rows(gone("a", 30), row("b", 3, ""))))
	off7 := []batch{batchOf(6, put("a", "x")), batchOf(7, off("a"))}
	checkEngine(t, "a row of Mem that is gone has the greatest", impl.CrashEngine(engineOf(51, off7, []batch{b}), 0), engineOf(8, off7, nil))
	checkEngine(t, "just below MaxVersion", impl.CrashEngine(engineOf(1000000, []batch{batchOf(999999, off("a"))}, nil), 0), engineOf(1000000, []batch{batchOf(999999, off("a"))}, nil))
	many := engineOf(99, nil, manyBatches(50, 200), manyRows(200, 30), manyRows(200, 20))
	checkEngine(t, "more rows than merging takes", impl.CrashEngine(many, 0), engineOf(31, nil, nil, many.Tables...))
	// What compacting took away is no row any more: its version comes again.
	small := impl.CompactEngine(engineOf(51, nil, nil, rows(gone("a", 30)), rows(row("a", 3, ""), row("b", 2, "y"))), 40).Engine
	crashed := impl.CrashEngine(small, 0)
	checkEngine(t, "behind compacting", crashed, engineOf(3, nil, nil, rows(row("b", 2, "y"))))
	checkCode(t, "the next version", impl.WriteBatch(crashed.Engine, b.list, true).Version, 3)
}

// What the log still has: nothing behind a flush; behind a crash a lost
// batch's version is given again.
func TestWhatTheLogStillHas(t *testing.T) {
	e := impl.NewEngine(1).Engine
	e = impl.WriteBatch(e, writes(put("a", "1")), true).Engine
	e = impl.FlushEngine(e).Engine
	checkEngine(t, "flushed, then crashed", impl.CrashEngine(e, 0), engineOf(2, nil, nil, rows(row("a", 1, "1"))))
	checkEngineCode(t, "flushed, nothing is loose", impl.CrashEngine(e, 1), impl.ErrRange)
	e = impl.WriteBatch(e, writes(put("a", "2")), false).Engine
	e = impl.CrashEngine(e, 5).Engine
	r := impl.WriteBatch(e, writes(put("b", "3")), false)
	checkEngineResult(t, "a version again", r, impl.EngineResult{Version: 2, Engine: engineOf(3, nil, []batch{batchOf(2, put("b", "3"))}, rows(row("a", 1, "1")))})
	checkText(t, "what was lost", impl.ReadKey(r.Engine, "a", 9), impl.TextResult{Text: "1"})
	f := impl.FlushEngine(impl.WriteBatch(r.Engine, writes(off("a")), false).Engine)
	checkEngine(t, "flushed without a sync, then crashed", impl.CrashEngine(f.Engine, 0), engineOf(4, nil, nil, rows(gone("a", 3), row("b", 2, "3")), rows(row("a", 1, "1"))))
}

// The words of the chapter, told once more, hold at whatever is thrown.
func TestWritesThatAreThrown(t *testing.T) {
	d := dice(73)
	told := map[int64]int{}
	for range 5000 {
		list := d.anyWrites()
		version := []int64{farLow, 0, 1, 2, 70000, 1000000, 1000001, farHigh}[d.below(8)]
		checkCode(t, "WritesFault", impl.WritesFault(list), wantWritesFault(list))
		got, want := impl.PackWrites(version, list), wantPackWrites(version, list)
		if got.Code != want.Code || !bytes.Equal(got.Bytes, want.Bytes) {
			t.Errorf("PackWrites(%d, %v): %v, want %v", version, list, got, want)
		}
		raw := rawWrites(version, list)
		checkRowsResult(t, "UnpackWrites", impl.UnpackWrites(raw), wantUnpackWrites(raw))
		told[want.Code]++
		if t.Failed() {
			t.FailNow()
		}
	}
	for _, code := range []int64{impl.OK, impl.ErrForm, impl.ErrMany, impl.ErrRange, impl.ErrTaken} {
		if told[code] < 100 {
			t.Errorf("%d was told %d times only", code, told[code])
		}
	}
}

func TestEnginesThatAreThrown(t *testing.T) {
	d := dice(74)
	told := map[int64]int{}
	for range 2500 {
		e := d.anyEngine(t)
		list := d.anyWrites()
		sync := d.below(2) == 0
		n := []int64{farLow, 0, 1, 2, 3, 9, farHigh}[d.below(7)]
		kept := d.below(int64(len(e.Log.Loose))+4) - 1
		checkCode(t, "EngineFault", impl.EngineFault(e), wantEngineFault(e))
		checkRowsResult(t, "AllRows", impl.AllRows(e), wantAllRows(e))
		key := oddKeys[d.below(int64(len(oddKeys)))]
		checkText(t, "ReadKey", impl.ReadKey(e, key, n), wantReadKey(e, key, n))
		checkEngineResult(t, "WriteBatch", impl.WriteBatch(e, list, sync), wantWriteBatch(e, list, sync))
		checkEngineResult(t, "FlushEngine", impl.FlushEngine(e), wantFlushEngine(e))
		checkEngineResult(t, "CompactEngine", impl.CompactEngine(e, n), wantCompactEngine(e, n))
		checkEngineResult(t, "CrashEngine", impl.CrashEngine(e, kept), wantCrashEngine(e, kept))
		checkEngineResult(t, "NewEngine", impl.NewEngine(e.Next), wantNewEngine(e.Next))
		told[impl.EngineFault(e)]++
		told[100+impl.CrashEngine(e, kept).Code]++
		told[200+impl.CompactEngine(e, n).Code]++
		told[300+impl.FlushEngine(e).Code]++
		if t.Failed() {
			t.Fatalf("%v", e)
		}
	}
	for _, code := range []int64{impl.OK, impl.ErrForm, impl.ErrMany, impl.ErrRange, 100, 100 + impl.ErrRange, 200, 200 + impl.ErrNone, 300, 300 + impl.ErrNone, 300 + impl.ErrMany} {
		if told[code] < 50 {
			t.Errorf("%d was told %d times only", code, told[code])
		}
	}
}
