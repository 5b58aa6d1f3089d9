package tests

import (
	"slices"
	"strings"
	"testing"

	"loop.example/g00203/impl"
)

func row(key string, version int64, value string) impl.Row {
	return impl.Row{Key: key, Version: version, Value: value}
}

func gone(key string, version int64) impl.Row {
	return impl.Row{Key: key, Version: version, Gone: true}
}

func rows(list ...impl.Row) []impl.Row {
	return list
}

// manyRows is a table of that many rows, all of them of one version.
func manyRows(n int, version int64) []impl.Row {
	var list []impl.Row
	for i := range n {
		list = append(list, row(string([]byte{byte('a' + i/100), byte('a' + i/10%10), byte('a' + i%10)}), version, "v"))
	}
	return list
}

// tallKey is a table of one key that has all versions from low to high.
func tallKey(key string, low, high int64) []impl.Row {
	var list []impl.Row
	for version := high; version >= low; version-- {
		list = append(list, row(key, version, "v"))
	}
	return list
}

// oddKeys rise; some begin others, some have bytes above 127.
var oddKeys = []string{"\x00", "\x00\x00", "a", "a\x00", "aa", "ab", "ab\xff", "ac", "b", "\x7f", "\x80", "\xff", "\xff\x00", "\xffa"}

var oddValues = []string{"", "x", "y", "\xff\x00", "long enough"}

// table throws one without a fault: some keys, versions up to highest, what
// is gone among them.
func (d *dice) table(highest int64) []impl.Row {
	var list []impl.Row
	for _, key := range oddKeys {
		if d.below(3) == 0 {
			continue
		}
		for version := highest; version > 0; version-- {
			switch d.below(5) {
			case 0, 1:
				list = append(list, row(key, version, oddValues[d.below(int64(len(oddValues)))]))
			case 2:
				list = append(list, gone(key, version))
			}
		}
	}
	return list
}

// anyTable throws one that may have faults of every kind.
func (d *dice) anyTable() []impl.Row {
	list := d.table(1 + d.below(5))
	for range d.below(3) {
		list = d.spoiledTable(list)
	}
	return list
}

func (d *dice) spoiledTable(list []impl.Row) []impl.Row {
	if len(list) == 0 {
		return list
	}
	at := d.below(int64(len(list)))
	other := d.below(int64(len(list)))
	switch d.below(7) {
	case 0:
		list[at].Key = []string{"", strings.Repeat("k", 20), strings.Repeat("k", 21)}[d.below(3)]
	case 1:
		list[at].Value = strings.Repeat("v", 99+int(d.below(3)))
	case 2:
		list[at].Version = []int64{farLow, -1, 0, 1, 1000000, 1000001, farHigh}[d.below(7)]
	case 3:
		list[at].Gone = !list[at].Gone
	case 4:
		list[at], list[other] = list[other], list[at]
	case 5:
		list = slices.Insert(list, int(at), list[other])
	case 6:
		list = append(manyRows(int(197+d.below(7))-len(list), 9), list...)
	}
	return list
}

// The want functions tell chapter 5 once more.
func wantRowFault(r impl.Row) int64 {
	if len(r.Key) < 1 || len(r.Key) > 20 {
		return impl.ErrForm
	}
	if r.Gone && len(r.Value) > 0 {
		return impl.ErrForm
	}
	if len(r.Value) > 100 {
		return impl.ErrMany
	}
	if r.Version < 1 || r.Version > 1000000 {
		return impl.ErrRange
	}
	return impl.OK
}

func wantBehind(ahead, r impl.Row) bool {
	return ahead.Key < r.Key || ahead.Key == r.Key && ahead.Version > r.Version
}

func wantTableFault(list []impl.Row) int64 {
	if len(list) > 200 {
		return impl.ErrMany
	}
	for i, r := range list {
		if code := wantRowFault(r); code != impl.OK {
			return code
		}
		if i > 0 && !wantBehind(list[i-1], r) {
			return impl.ErrForm
		}
	}
	return impl.OK
}

func wantGetRow(list []impl.Row, key string, version int64) impl.TextResult {
	if code := wantTableFault(list); code != impl.OK {
		return impl.TextResult{Code: code}
	}
	at := slices.IndexFunc(list, func(r impl.Row) bool { return r.Key == key && r.Version <= version })
	if at < 0 || list[at].Gone {
		return impl.TextResult{Code: impl.ErrNone}
	}
	return impl.TextResult{Text: list[at].Value}
}

func wantMergeTables(list [][]impl.Row) impl.RowsResult {
	if len(list) > 8 {
		return impl.RowsResult{Code: impl.ErrMany}
	}
	for _, rows := range list {
		if code := wantTableFault(rows); code != impl.OK {
			return impl.RowsResult{Code: code}
		}
	}
	all := slices.Concat(list...)
	slices.SortStableFunc(all, func(a, b impl.Row) int {
		if wantBehind(a, b) {
			return -1
		}
		if wantBehind(b, a) {
			return 1
		}
		return 0
	})
	all = slices.CompactFunc(all, func(a, b impl.Row) bool { return a.Key == b.Key && a.Version == b.Version })
	if len(all) > 200 {
		return impl.RowsResult{Code: impl.ErrMany}
	}
	return impl.RowsResult{Rows: all}
}

func wantCompactTable(list []impl.Row, floor int64) impl.RowsResult {
	if code := wantTableFault(list); code != impl.OK {
		return impl.RowsResult{Code: code}
	}
	var some, left []impl.Row
	for i, r := range list {
		if i > 0 && list[i-1].Key == r.Key && list[i-1].Version <= floor {
			continue
		}
		some = append(some, r)
	}
	for i, r := range some {
		last := i == len(some)-1 || some[i+1].Key != r.Key
		if r.Gone && r.Version <= floor && last {
			continue
		}
		left = append(left, r)
	}
	return impl.RowsResult{Rows: left}
}

func wantKeysOf(list []impl.Row) impl.KeysResult {
	if code := wantTableFault(list); code != impl.OK {
		return impl.KeysResult{Code: code}
	}
	var keys []string
	for _, r := range list {
		if !slices.Contains(keys, r.Key) {
			keys = append(keys, r.Key)
		}
	}
	return impl.KeysResult{Keys: keys}
}

func wantScanTable(list []impl.Row, prefix string, version int64) impl.RowsResult {
	if code := wantTableFault(list); code != impl.OK {
		return impl.RowsResult{Code: code}
	}
	var seen []impl.Row
	for _, key := range wantKeysOf(list).Keys {
		at := slices.IndexFunc(list, func(r impl.Row) bool { return r.Key == key && r.Version <= version })
		if at >= 0 && !list[at].Gone && strings.HasPrefix(key, prefix) {
			seen = append(seen, list[at])
		}
	}
	return impl.RowsResult{Rows: seen}
}

func checkText(t *testing.T, what string, got, want impl.TextResult) {
	t.Helper()
	if got != want {
		t.Errorf("%s: code %d, %q; want code %d, %q", what, got.Code, got.Text, want.Code, want.Text)
	}
}

func checkRowsResult(t *testing.T, what string, got, want impl.RowsResult) {
	t.Helper()
	if got.Code != want.Code || !slices.Equal(got.Rows, want.Rows) {
		t.Errorf("%s: code %d, %v; want code %d, %v", what, got.Code, got.Rows, want.Code, want.Rows)
	}
}

func checkRows(t *testing.T, what string, got impl.RowsResult, want ...impl.Row) {
	t.Helper()
	checkRowsResult(t, what, got, impl.RowsResult{Rows: want})
}

func checkRowsCode(t *testing.T, what string, got impl.RowsResult, code int64) {
	t.Helper()
	checkRowsResult(t, what, got, impl.RowsResult{Code: code})
}

func checkKeys(t *testing.T, what string, got, want impl.KeysResult) {
	t.Helper()
	if got.Code != want.Code || !slices.Equal(got.Keys, want.Keys) {
		t.Errorf("%s: code %d, %q; want code %d, %q", what, got.Code, got.Keys, want.Code, want.Keys)
	}
}
