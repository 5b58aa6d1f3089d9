package tests

import (
	"slices"
	"strings"
	"testing"

	"loop.example/g00203/impl"
)

func TestTableConstants(t *testing.T) {
	if impl.MaxRows != 200 || impl.MaxVersion != 1000000 {
		t.Errorf("MaxRows %d, MaxVersion %d", impl.MaxRows, impl.MaxVersion)
	}
}

func TestRowFault(t *testing.T) {
	k := func(n int) string { return strings.Repeat("k", n) }
	v := func(n int) string { return strings.Repeat("v", n) }
	cases := []struct {
		name string
		r    impl.Row
		want int64
	}{
		{"zero value", impl.Row{}, impl.ErrForm},
		{"key of 0 bytes", row("", 1, "x"), impl.ErrForm},
		{"key of 1 byte", row("k", 1, "x"), impl.OK},
		{"key of 20 bytes", row(k(20), 1, "x"), impl.OK},
		{"key of 21 bytes", row(k(21), 1, "x"), impl.ErrForm},
		{"key of 20 runes of 2 bytes", row(strings.Repeat("ü", 20), 1, "x"), impl.ErrForm},
		{"key of 10 runes of 2 bytes", row(strings.Repeat("ü", 10), 1, "x"), impl.OK},
		{"key of a nought", row("\x00", 1, "x"), impl.OK},
		{"key that is no text", row("\xff\xfe", 1, "x"), impl.OK},
		{"value of 0 bytes", row("k", 1, ""), impl.OK},
		{"value of 100 bytes", row("k", 1, v(100)), impl.OK},
		{"value of 101 bytes", row("k", 1, v(101)), impl.ErrMany},
		{"value of 60 runes of 2 bytes", row("k", 1, strings.Repeat("ü", 60)), impl.ErrMany},
		{"gone", gone("k", 1), impl.OK},
		{"gone with a value", impl.Row{Key: "k", Version: 1, Value: "x", Gone: true}, impl.ErrForm},
		{"gone with a long value", impl.Row{Key: "k", Version: 1, Value: v(101), Gone: true}, impl.ErrForm},
		{"version 0", row("k", 0, "x"), impl.ErrRange},
		{"version 1", row("k", 1, "x"), impl.OK},
		{"the greatest version", row("k", 1000000, "x"), impl.OK},
		{"one more", row("k", 1000001, "x"), impl.ErrRange},
		{"gone at version 0", gone("k", 0), impl.ErrRange},
		{"a version below 0", row("k", -1, "x"), impl.ErrRange},
		{"a version far below", row("k", farLow, "x"), impl.ErrRange},
		{"a version far above", row("k", farHigh, "x"), impl.ErrRange},
		{"long value at version 0", row("k", 0, v(101)), impl.ErrMany},
		{"no key, long value, version 0", row("", 0, v(101)), impl.ErrForm},
		{"long key and long value", row(k(21), 1, v(101)), impl.ErrForm},
		{"long key at version 0", row(k(21), 0, ""), impl.ErrForm},
		{"gone with a value at version 0", impl.Row{Key: "k", Value: "x", Gone: true}, impl.ErrForm},
	}
	for _, c := range cases {
		checkCode(t, c.name, impl.RowFault(c.r), c.want)
		checkCode(t, c.name+", as a table", impl.TableFault(rows(c.r)), c.want)
	}
}

func TestTableFault(t *testing.T) {
	long := row("a", 1, strings.Repeat("v", 101))
	late := row("a", 0, "x")
	cases := []struct {
		name string
		list []impl.Row
		want int64
	}{
		{"nil", nil, impl.OK},
		{"empty", []impl.Row{}, impl.OK},
		{"versions that fall", rows(row("a", 3, "x"), row("a", 2, "x"), row("a", 1, "x")), impl.OK},
		{"versions that rise", rows(row("a", 1, "x"), row("a", 2, "x")), impl.ErrForm},
		{"a version twice", rows(row("a", 2, "x"), row("a", 2, "x")), impl.ErrForm},
		{"a version twice, otherwise", rows(row("a", 2, "x"), gone("a", 2)), impl.ErrForm},
		{"keys that rise, versions too", rows(row("a", 1, "x"), row("b", 2, "x")), impl.OK},
		{"keys that rise, versions fall", rows(row("a", 2, "x"), row("b", 1, "x")), impl.OK},
		{"keys that rise, one version", rows(row("a", 2, "x"), row("b", 2, "x")), impl.OK},
		{"keys that fall", rows(row("b", 1, "x"), row("a", 1, "x")), impl.ErrForm},
		{"a key that comes again", rows(row("a", 2, "x"), row("b", 2, "x"), row("a", 1, "x")), impl.ErrForm},
		{"a beginning ahead", rows(row("a", 1, "x"), row("aa", 1, "x"), row("ab", 1, "x")), impl.OK},
		{"a beginning behind", rows(row("aa", 1, "x"), row("a", 1, "x")), impl.ErrForm},
		{"a beginning ahead by a nought", rows(row("a", 1, "x"), row("a\x00", 1, "x")), impl.OK},
		{"a beginning behind a nought", rows(row("a\x00", 1, "x"), row("a", 1, "x")), impl.ErrForm},
		{"shorter, but greater", rows(row("aaa", 1, "x"), row("b", 1, "x")), impl.OK},
		{"longer, but less", rows(row("b", 1, "x"), row("aaa", 1, "x")), impl.ErrForm},
		{"bytes above 127 behind", rows(row("z", 1, "x"), row("\x80", 1, "x"), row("\xff", 1, "x")), impl.OK},
		{"bytes above 127 ahead", rows(row("\x80", 1, "x"), row("z", 1, "x")), impl.ErrForm},
		{"great letters ahead of small ones", rows(row("Z", 1, "x"), row("a", 1, "x")), impl.OK},
		{"as many as may be", manyRows(200, 1), impl.OK},
		{"one more", manyRows(201, 1), impl.ErrMany},
		{"many versions", tallKey("a", 1, 200), impl.OK},
		{"one more version", tallKey("a", 1, 201), impl.ErrMany},
		{"too many, none of them right", make([]impl.Row, 201), impl.ErrMany},
		{"none of them right", make([]impl.Row, 200), impl.ErrForm},
		{"row by row: too late, then a long value", rows(late, long), impl.ErrRange},
		{"row by row: a long value, then too late", rows(long, late), impl.ErrMany},
		{"row by row: order, then a long value", rows(row("b", 2, "x"), row("a", 1, "x"), long), impl.ErrForm},
		{"row by row: a long value, then order", rows(long, row("b", 2, "x"), row("a", 1, "x")), impl.ErrMany},
		{"a row's own fault ahead of its order", rows(row("b", 2, "x"), long), impl.ErrMany},
		{"a row's version ahead of its order", rows(row("b", 2, "x"), late), impl.ErrRange},
		{"the last row", append(manyRows(199, 1), row("z", farHigh, "x")), impl.ErrRange},
	}
	for _, c := range cases {
		checkCode(t, c.name, impl.TableFault(c.list), c.want)
		checkCode(t, c.name+", told once more", wantTableFault(c.list), c.want)
	}
}

// All but MergeTables ask the TableFault first, whatever else they are given.
func TestTableFaultIsAskedFirst(t *testing.T) {
	wrong := map[int64][]impl.Row{
		impl.ErrMany:  manyRows(201, 1),
		impl.ErrForm:  rows(row("b", 1, "x"), row("a", 1, "x")),
		impl.ErrRange: rows(row("a", 1, "x"), row("b", 0, "x")),
	}
	for code, list := range wrong {
		for _, n := range []int64{farLow, 0, 1, 5, farHigh} {
			for _, key := range []string{"", "a", "none", strings.Repeat("k", 30)} {
				checkText(t, "GetRow", impl.GetRow(list, key, n), impl.TextResult{Code: code})
				checkRowsCode(t, "ScanTable", impl.ScanTable(list, key, n), code)
			}
			checkRowsCode(t, "CompactTable", impl.CompactTable(list, n), code)
		}
		checkKeys(t, "KeysOf", impl.KeysOf(list), impl.KeysResult{Code: code})
		checkRowsCode(t, "MergeTables", impl.MergeTables([][]impl.Row{nil, list}), code)
	}
}

func TestGetRow(t *testing.T) {
	list := rows(row("a", 5, "y"), row("a", 2, "x"), row("aa", 3, ""), gone("b", 9), row("b", 7, "z"), gone("b", 4), row("c", 1000000, "last"), row("\xff", 1, "high"))
	cases := []struct {
		name    string
		key     string
		version int64
		code    int64
		text    string
	}{
		{"the document's example", "a", 4, impl.OK, "x"},
		{"at the version itself", "a", 5, impl.OK, "y"},
		{"at the older one itself", "a", 2, impl.OK, "x"},
		{"above all", "a", 6, impl.OK, "y"},
		{"far above all", "a", farHigh, impl.OK, "y"},
		{"below all", "a", 1, impl.ErrNone, ""},
		{"version 0", "a", 0, impl.ErrNone, ""},
		{"far below all", "a", farLow, impl.ErrNone, ""},
		{"an empty value", "aa", 3, impl.OK, ""},
		{"below an empty value", "aa", 2, impl.ErrNone, ""},
		{"gone at last", "b", 9, impl.ErrNone, ""},
		{"gone above all", "b", farHigh, impl.ErrNone, ""},
		{"ahead of being gone", "b", 8, impl.OK, "z"},
		{"between", "b", 6, impl.ErrNone, ""},
		{"gone at first", "b", 4, impl.ErrNone, ""},
		{"ahead of the first", "b", 3, impl.ErrNone, ""},
		{"the greatest version", "c", 1000000, impl.OK, "last"},
		{"just below the greatest version", "c", 999999, impl.ErrNone, ""},
		{"a byte above 127", "\xff", 1, impl.OK, "high"},
		{"no such key", "d", 9, impl.ErrNone, ""},
		{"no key", "", 9, impl.ErrNone, ""},
		{"the beginning of a key", "\xff\x00", 9, impl.ErrNone, ""},
		{"a key that is too long", strings.Repeat("a", 21), 9, impl.ErrNone, ""},
	}
	for _, c := range cases {
		checkText(t, c.name, impl.GetRow(list, c.key, c.version), impl.TextResult{Code: c.code, Text: c.text})
	}
	checkText(t, "of nil", impl.GetRow(nil, "a", 1), impl.TextResult{Code: impl.ErrNone})
	checkText(t, "of an empty one", impl.GetRow([]impl.Row{}, "a", 1), impl.TextResult{Code: impl.ErrNone})
	checkText(t, "of many", impl.GetRow(tallKey("a", 1, 200), "a", 1), impl.TextResult{Text: "v"})
}

func TestMergeTables(t *testing.T) {
	a2, a1, b3 := row("a", 2, "x"), row("a", 1, "w"), row("b", 3, "y")
	other := row("a", 2, "other")
	cases := []struct {
		name string
		list [][]impl.Row
		want []impl.Row
	}{
		{"no tables", nil, nil},
		{"no tables, empty", [][]impl.Row{}, nil},
		{"empty tables", [][]impl.Row{nil, {}}, nil},
		{"8 empty tables", make([][]impl.Row, 8), nil},
		{"one", [][]impl.Row{{a2, a1, b3}}, rows(a2, a1, b3)},
		{"one and an empty one", [][]impl.Row{nil, {a2, a1, b3}, {}}, rows(a2, a1, b3)},
		{"rows in turn", [][]impl.Row{{a1}, {a2, b3}}, rows(a2, a1, b3)},
		{"rows in turn, the other way", [][]impl.Row{{b3}, {a1}, {a2}}, rows(a2, a1, b3)},
		{"twice the same", [][]impl.Row{{a2, b3}, {a2, b3}}, rows(a2, b3)},
		{"the first table's row", [][]impl.Row{{other}, {a2, b3}}, rows(other, b3)},
		{"the first table's row, the other way", [][]impl.Row{{a2, b3}, {other}}, rows(a2, b3)},
		{"gone in the first", [][]impl.Row{{gone("a", 2)}, {a2}}, rows(gone("a", 2))},
		{"gone in the second", [][]impl.Row{{a2}, {gone("a", 2)}, {other}}, rows(a2)},
		{"8 tables", [][]impl.Row{{a2}, {a1}, {other}, {b3}, {a2}, nil, {row("c", 1, "")}, {row("aa", 1, "")}}, rows(a2, a1, row("aa", 1, ""), b3, row("c", 1, ""))},
		{"bytes above 127", [][]impl.Row{{row("\x80", 1, "")}, {row("z", 1, "")}}, rows(row("z", 1, ""), row("\x80", 1, ""))},
	}
	for _, c := range cases {
		checkRows(t, c.name, impl.MergeTables(c.list), c.want...)
	}
}

func TestMergeTablesCodes(t *testing.T) {
	form, span := rows(row("", 1, "x")), rows(row("a", 0, "x"))
	full := manyRows(200, 1)
	cases := []struct {
		name string
		list [][]impl.Row
		want int64
	}{
		{"9 empty tables", make([][]impl.Row, 9), impl.ErrMany},
		{"9 tables, a wrong one", [][]impl.Row{form, nil, nil, nil, nil, nil, nil, nil, nil}, impl.ErrMany},
		{"very many", make([][]impl.Row, 5000), impl.ErrMany},
		{"table by table: form, then range", [][]impl.Row{form, span}, impl.ErrForm},
		{"table by table: range, then form", [][]impl.Row{nil, span, form}, impl.ErrRange},
		{"table by table: range, then too many", [][]impl.Row{span, manyRows(201, 1)}, impl.ErrRange},
		{"a fault ahead of too many in all", [][]impl.Row{full, manyRows(200, 2), form}, impl.ErrForm},
		{"a table that is too long", [][]impl.Row{manyRows(201, 1)}, impl.ErrMany},
		{"one row more", [][]impl.Row{full, rows(row("z", 1, ""))}, impl.ErrMany},
		{"one row more, ahead", [][]impl.Row{rows(row("a", 1, "")), full}, impl.ErrMany},
		{"one version more", [][]impl.Row{full, manyRows(1, 2)}, impl.ErrMany},
		{"twice as many", [][]impl.Row{full, manyRows(200, 2)}, impl.ErrMany},
		{"8 times as many", [][]impl.Row{full, manyRows(200, 2), manyRows(200, 3), manyRows(200, 4), manyRows(200, 5), manyRows(200, 6), manyRows(200, 7), manyRows(200, 8)}, impl.ErrMany},
	}
	for _, c := range cases {
		checkRowsCode(t, c.name, impl.MergeTables(c.list), c.want)
	}
}

// What comes just to MaxRows has room, also where rows come again.
func TestMergeTablesUpToMaxRows(t *testing.T) {
	full := manyRows(200, 1)
	checkRows(t, "8 times the same", impl.MergeTables(slices.Repeat([][]impl.Row{full}, 8)), full...)
	for _, at := range []int{0, 1, 100, 199, 200} {
		checkRows(t, "in two parts", impl.MergeTables([][]impl.Row{full[:at], full[at:]}), full...)
		checkRows(t, "in two parts, the other way", impl.MergeTables([][]impl.Row{full[at:], full[:at], full}), full...)
	}
	tall := tallKey("k", 1, 200)
	checkRows(t, "versions of one key", impl.MergeTables([][]impl.Row{tall[150:], tall[:150]}), tall...)
	checkRowsCode(t, "one version more", impl.MergeTables([][]impl.Row{tall[150:], tall[:150], tallKey("k", 201, 201)}), impl.ErrMany)
}

func TestCompactTable(t *testing.T) {
	a9, a5, a2 := row("a", 9, "9"), row("a", 5, "5"), row("a", 2, "2")
	g9, g5, g2 := gone("a", 9), gone("a", 5), gone("a", 2)
	b5 := row("b", 5, "b")
	cases := []struct {
		name  string
		list  []impl.Row
		floor int64
		want  []impl.Row
	}{
		{"below all", rows(a9, a5, a2), 1, rows(a9, a5, a2)},
		{"far below all", rows(a9, a5, g2), farLow, rows(a9, a5, g2)},
		{"at the last", rows(a9, a5, a2), 2, rows(a9, a5, a2)},
		{"above the last", rows(a9, a5, a2), 4, rows(a9, a5, a2)},
		{"at the middle one", rows(a9, a5, a2), 5, rows(a9, a5)},
		{"above the middle one", rows(a9, a5, a2), 8, rows(a9, a5)},
		{"at the first", rows(a9, a5, a2), 9, rows(a9)},
		{"far above all", rows(a9, a5, a2), farHigh, rows(a9)},
		{"last gone, below", rows(a9, a5, g2), 1, rows(a9, a5, g2)},
		{"last gone, at", rows(a9, a5, g2), 2, rows(a9, a5)},
		{"last gone, above", rows(a9, a5, g2), 5, rows(a9, a5)},
		{"middle gone, below", rows(a9, g5, a2), 4, rows(a9, g5, a2)},
		{"middle gone, at", rows(a9, g5, a2), 5, rows(a9)},
		{"middle gone, above", rows(a9, g5, a2), 8, rows(a9)},
		{"middle gone, far above", rows(a9, g5, a2), 9, rows(a9)},
		{"first gone, below", rows(g9, a5, a2), 8, rows(g9, a5)},
		{"first gone, at", rows(g9, a5, a2), 9, nil},
		{"only one gone, below", rows(g5), 4, rows(g5)},
		{"only one gone, at", rows(g5), 5, nil},
		{"only one gone, above", rows(g5), 6, nil},
		{"all gone, below", rows(g9, g5, g2), 1, rows(g9, g5, g2)},
		{"all gone, at the last", rows(g9, g5, g2), 2, rows(g9, g5)},
		{"all gone, at the middle one", rows(g9, g5, g2), 5, rows(g9)},
		{"all gone, at the first", rows(g9, g5, g2), 9, nil},
		{"nothing left of one key", rows(g9, a5, b5), 9, rows(b5)},
		{"the next key is its own", rows(a2, b5), 9, rows(a2, b5)},
		{"the next key, gone", rows(a2, gone("b", 5)), 5, rows(a2)},
		{"a beginning of the next key", rows(a2, row("aa", 1, "")), 9, rows(a2, row("aa", 1, ""))},
		{"no rows", nil, 5, nil},
		{"empty", []impl.Row{}, 5, nil},
	}
	for _, c := range cases {
		checkRows(t, c.name, impl.CompactTable(c.list, c.floor), c.want...)
	}
	checkRows(t, "as many as may be", impl.CompactTable(manyRows(200, 3), 3), manyRows(200, 3)...)
	checkRows(t, "many versions", impl.CompactTable(tallKey("k", 1, 200), 100), tallKey("k", 100, 200)...)
}

func TestScanTable(t *testing.T) {
	list := rows(row("a", 5, "y"), row("a", 2, "x"), gone("aa", 4), row("aa", 3, "n"), row("ab", 3, ""), row("b", 6, "z"), row("\xff", 1, "h"), row("\xff\xff", 1, "hh"))
	cases := []struct {
		name    string
		prefix  string
		version int64
		want    []impl.Row
	}{
		{"all, far above", "", farHigh, rows(list[0], list[4], list[5], list[6], list[7])},
		{"all, in between", "", 3, rows(list[1], list[3], list[4], list[6], list[7])},
		{"all, at 1", "", 1, rows(list[6], list[7])},
		{"all, at 0", "", 0, nil},
		{"all, far below", "", farLow, nil},
		{"a beginning that is a key", "a", 5, rows(list[0], list[4])},
		{"a beginning that is gone", "aa", 5, nil},
		{"a beginning that is not yet gone", "aa", 3, rows(list[3])},
		{"a byte above 127", "\xff", 9, rows(list[6], list[7])},
		{"two bytes above 127", "\xff\xff", 9, rows(list[7])},
		{"longer than every key", "abc", 9, nil},
		{"no key begins so", "c", 9, nil},
		{"a nought", "\x00", 9, nil},
		{"a prefix that is too long for a key", strings.Repeat("a", 30), 9, nil},
	}
	for _, c := range cases {
		checkRows(t, c.name, impl.ScanTable(list, c.prefix, c.version), c.want...)
	}
	checkRows(t, "of nil", impl.ScanTable(nil, "", 9))
	checkRows(t, "of an empty one", impl.ScanTable([]impl.Row{}, "", 9))
	checkRows(t, "of many", impl.ScanTable(manyRows(200, 1), "", 1), manyRows(200, 1)...)
}

func TestKeysOf(t *testing.T) {
	list := rows(row("a", 5, "y"), gone("a", 2), gone("aa", 4), row("b", 1000000, ""), row("b", 1, ""), row("\x80", 1, ""))
	checkKeys(t, "each key once", impl.KeysOf(list), impl.KeysResult{Keys: []string{"a", "aa", "b", "\x80"}})
	checkKeys(t, "of nil", impl.KeysOf(nil), impl.KeysResult{})
	checkKeys(t, "of an empty one", impl.KeysOf([]impl.Row{}), impl.KeysResult{})
	checkKeys(t, "of one key", impl.KeysOf(tallKey("k", 1, 200)), impl.KeysResult{Keys: []string{"k"}})
	if r := impl.KeysOf(manyRows(200, 1)); len(r.Keys) != 200 || !slices.IsSorted(r.Keys) {
		t.Errorf("of many: %v", r)
	}
}

// The words of the chapter, told once more, hold at whatever is thrown.
func TestTablesThatAreThrown(t *testing.T) {
	d := dice(61)
	told := map[int64]int{}
	for range 4000 {
		list := d.anyTable()
		tables := [][]impl.Row{list, d.table(3), d.table(3)}
		if d.below(4) == 0 {
			tables = append(tables, d.anyTable(), d.table(5), d.anyTable())
		}
		version := []int64{farLow, 0, 1, 2, 3, 4, 9, farHigh}[d.below(8)]
		key := oddKeys[d.below(int64(len(oddKeys)))]
		checkCode(t, "TableFault", impl.TableFault(list), wantTableFault(list))
		checkText(t, "GetRow", impl.GetRow(list, key, version), wantGetRow(list, key, version))
		checkRowsResult(t, "MergeTables", impl.MergeTables(tables), wantMergeTables(tables))
		checkRowsResult(t, "CompactTable", impl.CompactTable(list, version), wantCompactTable(list, version))
		prefix := key[:d.below(int64(len(key)+1))]
		checkRowsResult(t, "ScanTable", impl.ScanTable(list, prefix, version), wantScanTable(list, prefix, version))
		checkKeys(t, "KeysOf", impl.KeysOf(list), wantKeysOf(list))
		told[impl.TableFault(list)]++
		told[100+impl.GetRow(list, key, version).Code]++
		told[200+impl.MergeTables(tables).Code]++
		if t.Failed() {
			t.FailNow()
		}
	}
	for _, code := range []int64{impl.OK, impl.ErrForm, impl.ErrMany, impl.ErrRange, 100, 100 + impl.ErrNone, 200, 200 + impl.ErrMany, 200 + impl.ErrForm} {
		if told[code] < 50 {
			t.Errorf("%d was told %d times only", code, told[code])
		}
	}
}
