package tests

import (
	"reflect"
	"slices"
	"strings"
	"testing"

	"loop.example/g00203/impl"
)

// manyTables are some without a fault; keys and versions are in common.
func manyTables(d *dice, times int) [][]impl.Row {
	list := [][]impl.Row{
		nil, {}, rows(row("a", 1, "x")), rows(gone("a", 1)), manyRows(200, 3), tallKey("k", 1, 200),
		rows(row("a", 1000000, "x"), gone("a", 999999), row("a", 1, "y")),
	}
	for range times {
		list = append(list, d.table(1+d.below(6)))
	}
	return list
}

func findRow(list []impl.Row, key string, version int64) (impl.Row, bool) {
	for _, r := range list {
		if r.Key == key && r.Version == version {
			return r, true
		}
	}
	return impl.Row{}, false
}

// Promise 6: what is merged has all rows, of one Key and Version that of the
// first table, and nothing else.
func TestWhatIsMergedHasAllRows(t *testing.T) {
	d := dice(62)
	common := 0
	for range 600 {
		var list [][]impl.Row
		for range d.below(5) {
			list = append(list, d.table(1+d.below(3)))
		}
		r := impl.MergeTables(list)
		if r.Code != impl.OK {
			continue
		}
		checkCode(t, "TableFault of what is merged", impl.TableFault(r.Rows), impl.OK)
		places := map[impl.Row]int{}
		for _, table := range list {
			for _, row := range table {
				place := impl.Row{Key: row.Key, Version: row.Version}
				if places[place]++; places[place] > 1 {
					common++
					continue
				}
				if got, found := findRow(r.Rows, row.Key, row.Version); !found || got != row {
					t.Fatalf("%v merged: %v, want %v", list, got, row)
				}
			}
		}
		if len(places) != len(r.Rows) {
			t.Fatalf("%v merged: %d rows, want %d", list, len(r.Rows), len(places))
		}
	}
	if common < 1000 {
		t.Errorf("%d rows in common only", common)
	}
}

// Promise 6: what is made compact tells the same at all versions from its
// floor on, codes among them.
func TestWhatIsCompactTellsTheSame(t *testing.T) {
	d := dice(63)
	fewer := 0
	for _, list := range manyTables(&d, 150) {
		highest := int64(8)
		floors := []int64{farLow, -1, 0, 999998, 999999, 1000000, farHigh}
		for n := range highest {
			floors = append(floors, n)
		}
		keys := append(impl.KeysOf(list).Keys, "", "none", "a", "aaa")
		for _, floor := range floors {
			r := impl.CompactTable(list, floor)
			if r.Code != impl.OK || impl.TableFault(r.Rows) != impl.OK {
				t.Fatalf("%v, floor %d: code %d, fault %d", list, floor, r.Code, impl.TableFault(r.Rows))
			}
			if len(r.Rows) < len(list) {
				fewer++
			}
			for _, version := range append(slices.Clone(floors), floor) {
				if version < floor {
					continue
				}
				for _, key := range keys {
					if a, b := impl.GetRow(list, key, version), impl.GetRow(r.Rows, key, version); a != b {
						t.Fatalf("%v, floor %d, key %q at %d: %v, then %v", list, floor, key, version, a, b)
					}
				}
			}
		}
	}
	if fewer < 500 {
		t.Errorf("%d times compact only", fewer)
	}
}

// Making compact twice, or of what a lower floor made compact, tells no other
// rows.
func TestCompactTwice(t *testing.T) {
	d := dice(64)
	for _, list := range manyTables(&d, 100) {
		for low := range int64(7) {
			once := impl.CompactTable(list, low)
			for high := low; high < 7; high++ {
				checkRowsResult(t, "twice", impl.CompactTable(once.Rows, high), impl.CompactTable(list, high))
			}
		}
	}
}

// Promise 6: a scan tells what reading tells.
func TestAScanTellsWhatReadingTells(t *testing.T) {
	d := dice(65)
	seen := 0
	for _, list := range manyTables(&d, 200) {
		prefixes := append([]string{"", "none", "\x00\x00\x00", "ab\xff\x00"}, oddKeys...)
		for _, prefix := range prefixes {
			for _, version := range []int64{farLow, 0, 1, 2, 3, 4, 5, 6, 1000000, farHigh} {
				var want []impl.TextResult
				var keys []string
				for _, key := range impl.KeysOf(list).Keys {
					if r := impl.GetRow(list, key, version); strings.HasPrefix(key, prefix) && r.Code == impl.OK {
						keys, want = append(keys, key), append(want, r)
					}
				}
				r := impl.ScanTable(list, prefix, version)
				if r.Code != impl.OK || len(r.Rows) != len(want) {
					t.Fatalf("%v, %q at %d: code %d, %v, want %q", list, prefix, version, r.Code, r.Rows, keys)
				}
				for i, row := range r.Rows {
					own, found := findRow(list, row.Key, row.Version)
					if row.Key != keys[i] || row.Value != want[i].Text || row.Gone || !found || own != row || row.Version > version {
						t.Fatalf("%v, %q at %d: %v, want %q %q", list, prefix, version, row, keys[i], want[i].Text)
					}
					seen++
				}
			}
		}
	}
	if seen < 1000 {
		t.Errorf("%d rows seen only", seen)
	}
}

// tableArgs are right and wrong ones for every function of chapter 5.
func tableArgs() [][]impl.Row {
	d := dice(66)
	list := manyTables(&d, 40)
	list = append(list, manyRows(201, 1), make([]impl.Row, 3), make([]impl.Row, 300), rows(row("a", farLow, "x")), rows(row("a", farHigh, "x")))
	for range 60 {
		list = append(list, d.anyTable())
	}
	return list
}

// Promise 1: an answer at every argument that hangs on it alone, in new memory.
func TestTableAnswersAreNewMemory(t *testing.T) {
	args := tableArgs()
	for i, list := range args {
		for _, r := range list[:min(3, len(list))] {
			checkPure(t, "RowFault", impl.RowFault, r)
		}
		checkPure(t, "TableFault", impl.TableFault, list)
		checkPure(t, "KeysOf", impl.KeysOf, list)
		for _, n := range []int64{farLow, 0, 2, farHigh} {
			for _, key := range []string{"", "a", "k", "\xff"} {
				checkPure(t, "GetRow", impl.GetRow, list, key, n)
				checkPure(t, "ScanTable", impl.ScanTable, list, key, n)
			}
			checkPure(t, "CompactTable", impl.CompactTable, list, n)
		}
		checkPure(t, "MergeTables", impl.MergeTables, [][]impl.Row{list})
		checkPure(t, "MergeTables", impl.MergeTables, [][]impl.Row{list, args[(i+1)%len(args)], list})
		checkPure(t, "MergeTables", impl.MergeTables, [][]impl.Row{nil, {}, list, nil})
	}
	checkPure(t, "MergeTables", impl.MergeTables, [][]impl.Row{})
	checkPure(t, "MergeTables", impl.MergeTables, [][]impl.Row(nil))
	checkPure(t, "MergeTables", impl.MergeTables, make([][]impl.Row, 9))
}

// One table that stands in a list twice, or as the beginning of another, is
// not changed.
func TestTablesOfOneMemoryAreNotChanged(t *testing.T) {
	d := dice(67)
	for range 100 {
		list := d.table(4)
		before := slices.Clone(list)
		half := len(list) / 2
		tables := [][]impl.Row{list[half:], list[:half], list, list}
		r := impl.MergeTables(tables)
		checkRows(t, "merged", r, before...)
		for i := range r.Rows {
			r.Rows[i] = gone("written", 7)
		}
		if !slices.Equal(list, before) {
			t.Fatalf("%v is now %v", before, list)
		}
	}
}

// Nil and what is empty are one value: they have one answer.
func TestTablesOfNilAndEmpty(t *testing.T) {
	empty := make([]impl.Row, 0, 5)
	pairs := [][2]any{
		{impl.TableFault(nil), impl.TableFault(empty)},
		{impl.GetRow(nil, "a", 1), impl.GetRow(empty, "a", 1)},
		{impl.CompactTable(nil, 1), impl.CompactTable(empty, 1)},
		{impl.ScanTable(nil, "", 1), impl.ScanTable(empty, "", 1)},
		{impl.KeysOf(nil), impl.KeysOf(empty)},
		{impl.MergeTables(nil), impl.MergeTables([][]impl.Row{empty, empty})},
		{impl.MergeTables([][]impl.Row{nil}), impl.MergeTables([][]impl.Row{})},
	}
	for i, p := range pairs {
		if !reflect.DeepEqual(p[0], p[1]) {
			t.Errorf("pair %d: nil %v, empty %v", i, p[0], p[1])
		}
	}
}
