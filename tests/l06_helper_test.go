package tests

import (
	"bytes"
	"encoding/binary"
	"slices"
	"strings"
	"testing"

	"loop.example/g00203/impl"
)

func put(key, value string) impl.Write {
	return impl.Write{Key: key, Value: value}
}

func off(key string) impl.Write {
	return impl.Write{Key: key, Gone: true}
}

func writes(list ...impl.Write) []impl.Write {
	return list
}

// manyWrites are that many, each of a key of its own.
func manyWrites(n int, value string) []impl.Write {
	var list []impl.Write
	for _, r := range manyRows(n, 1) {
		list = append(list, put(r.Key, value))
	}
	return list
}

// sizedWrites are right ones, but for their size: their bytes are just so
// many (12 to 840). A write without a value has 4 bytes.
func sizedWrites(size int) []impl.Write {
	var list []impl.Write
	for rest := size - 8; rest > 0; {
		value := min(rest-4, 100)
		if left := rest - 4 - value; left > 0 && left < 4 {
			value -= 4 - left
		}
		list = append(list, put(string(rune('a'+len(list))), strings.Repeat("v", value)))
		rest -= 4 + value
	}
	return list
}

// batch is what a record of an engine's log has.
type batch struct {
	version int64
	list    []impl.Write
}

func batchOf(version int64, list ...impl.Write) batch {
	return batch{version: version, list: list}
}

func (b batch) rows() []impl.Row {
	var list []impl.Row
	for _, w := range b.list {
		list = append(list, impl.Row{Key: w.Key, Version: b.version, Value: w.Value, Gone: w.Gone})
	}
	return list
}

func (b batch) frame() []byte {
	return wantFrame(rawWrites(b.version, b.list))
}

func frames(list []batch) []byte {
	var all []byte
	for _, b := range list {
		all = append(all, b.frame()...)
	}
	return all
}

// inOrder sorts rows as a table has them.
func inOrder(list []impl.Row) []impl.Row {
	list = slices.Clone(list)
	slices.SortStableFunc(list, func(a, b impl.Row) int {
		if wantBehind(a, b) {
			return -1
		}
		if wantBehind(b, a) {
			return 1
		}
		return 0
	})
	return list
}

func rowsOfBatches(list []batch) []impl.Row {
	var all []impl.Row
	for _, b := range list {
		all = append(all, b.rows()...)
	}
	return inOrder(all)
}

// engineOf has the batches in its log and in Mem.
func engineOf(next int64, synced, loose []batch, tables ...[]impl.Row) impl.Engine {
	return impl.Engine{
		Log:    logOf(frames(synced), frames(loose)),
		Mem:    rowsOfBatches(slices.Concat(synced, loose)),
		Tables: tables,
		Next:   next,
	}
}

func cloneEngine(e impl.Engine) impl.Engine {
	e.Log = logOf(slices.Clone(e.Log.Synced), slices.Clone(e.Log.Loose))
	e.Mem = slices.Clone(e.Mem)
	tables := e.Tables
	e.Tables = nil
	for _, table := range tables {
		e.Tables = append(e.Tables, slices.Clone(table))
	}
	return e
}

// rawWrites packs whatever there is, so that bytes of writes with a fault can
// be told; of a text that is too long its lowest byte stands there.
func rawWrites(version int64, list []impl.Write) []byte {
	data := wantNumber(version)
	for _, w := range list {
		if w.Gone {
			data = append(data, 1)
			data = append(append(data, byte(len(w.Key))), w.Key...)
			continue
		}
		data = append(data, 0)
		data = append(append(data, byte(len(w.Key))), w.Key...)
		data = append(append(data, byte(len(w.Value))), w.Value...)
	}
	return data
}

// The want functions tell chapter 6 once more.
func wantWritesFault(list []impl.Write) int64 {
	if len(list) == 0 || len(list) > 8 {
		return impl.ErrMany
	}
	ahead := map[string]int{}
	for _, w := range list {
		if code := wantRowFault(impl.Row{Key: w.Key, Version: 1, Value: w.Value, Gone: w.Gone}); code != impl.OK {
			return code
		}
		if ahead[w.Key]++; ahead[w.Key] > 1 {
			return impl.ErrTaken
		}
	}
	if len(rawWrites(1, list)) > 500 {
		return impl.ErrMany
	}
	return impl.OK
}

func wantPackWrites(version int64, list []impl.Write) impl.BytesResult {
	if version < 1 || version > 1000000 {
		return impl.BytesResult{Code: impl.ErrRange}
	}
	if code := wantWritesFault(list); code != impl.OK {
		return impl.BytesResult{Code: code}
	}
	return impl.BytesResult{Bytes: rawWrites(version, list)}
}

// wantUnpackWrites reads as far as it can, and then asks whether data is what
// was read, packed.
func wantUnpackWrites(data []byte) impl.RowsResult {
	in := bytes.NewReader(data)
	b := batch{}
	binary.Read(in, binary.BigEndian, &b.version)
	for in.Len() > 0 {
		mark, _ := in.ReadByte()
		w := impl.Write{Gone: mark == 1, Key: textFrom(in)}
		if !w.Gone {
			w.Value = textFrom(in)
		}
		b.list = append(b.list, w)
	}
	p := wantPackWrites(b.version, b.list)
	if p.Code != impl.OK || !bytes.Equal(p.Bytes, data) {
		return impl.RowsResult{Code: impl.ErrText}
	}
	return impl.RowsResult{Rows: b.rows()}
}

func textFrom(in *bytes.Reader) string {
	size, _ := in.ReadByte()
	text := make([]byte, size)
	n, _ := in.Read(text)
	return string(text[:n])
}

func wantGreatest(tables ...[]impl.Row) int64 {
	var greatest int64
	for _, r := range slices.Concat(tables...) {
		greatest = max(greatest, r.Version)
	}
	return greatest
}

func wantEngineFault(e impl.Engine) int64 {
	if code := wantLogFault(e.Log); code != impl.OK {
		return code
	}
	if code := wantTableFault(e.Mem); code != impl.OK {
		return code
	}
	if len(e.Tables) > 6 {
		return impl.ErrMany
	}
	for _, table := range e.Tables {
		if code := wantTableFault(table); code != impl.OK {
			return code
		}
	}
	old := wantGreatest(e.Tables...)
	if e.Next < 1 || e.Next > 1000000 || old >= e.Next || wantGreatest(e.Mem) >= e.Next {
		return impl.ErrRange
	}
	if !wantLogged(e) || slices.ContainsFunc(e.Mem, func(r impl.Row) bool { return r.Version <= old }) {
		return impl.ErrForm
	}
	return impl.OK
}

// wantLogged: the log is wholly read, its versions rise up to Next, and its
// rows are those of Mem.
func wantLogged(e impl.Engine) bool {
	read := wantReadLog(e.Log)
	var all []impl.Row
	var ahead int64
	for _, record := range read.Records {
		r := wantUnpackWrites(record)
		if r.Code != impl.OK || r.Rows[0].Version <= ahead || r.Rows[0].Version >= e.Next {
			return false
		}
		ahead = r.Rows[0].Version
		all = append(all, r.Rows...)
	}
	return read.Used == int64(len(lineOf(e.Log))) && slices.Equal(inOrder(all), e.Mem)
}

func wantNewEngine(next int64) impl.EngineResult {
	if next < 1 || next > 1000000 {
		return impl.EngineResult{Code: impl.ErrRange}
	}
	return impl.EngineResult{Engine: impl.Engine{Next: next}}
}

func wantWriteBatch(e impl.Engine, list []impl.Write, sync bool) impl.EngineResult {
	if code := wantEngineFault(e); code != impl.OK {
		return impl.EngineResult{Code: code}
	}
	if code := wantWritesFault(list); code != impl.OK {
		return impl.EngineResult{Code: code}
	}
	if e.Next == 1000000 {
		return impl.EngineResult{Code: impl.ErrRange}
	}
	b := batchOf(e.Next, list...)
	after := cloneEngine(e)
	after.Log.Loose = append(after.Log.Loose, b.frame()...)
	if sync {
		after.Log = logOf(lineOf(after.Log), nil)
	}
	after.Mem = inOrder(append(after.Mem, b.rows()...))
	after.Next++
	if len(lineOf(after.Log)) > 6000 || len(after.Mem) > 200 {
		return impl.EngineResult{Code: impl.ErrMany}
	}
	return impl.EngineResult{Version: e.Next, Engine: after}
}

func wantAllRows(e impl.Engine) impl.RowsResult {
	if code := wantEngineFault(e); code != impl.OK {
		return impl.RowsResult{Code: code}
	}
	return wantMergeTables(slices.Concat([][]impl.Row{e.Mem}, e.Tables))
}

func wantReadKey(e impl.Engine, key string, version int64) impl.TextResult {
	all := wantAllRows(e)
	if all.Code != impl.OK {
		return impl.TextResult{Code: all.Code}
	}
	return wantGetRow(all.Rows, key, version)
}

func wantFlushEngine(e impl.Engine) impl.EngineResult {
	if code := wantEngineFault(e); code != impl.OK {
		return impl.EngineResult{Code: code}
	}
	if len(e.Mem) == 0 {
		return impl.EngineResult{Code: impl.ErrNone}
	}
	if len(e.Tables) == 6 {
		return impl.EngineResult{Code: impl.ErrMany}
	}
	return impl.EngineResult{Engine: impl.Engine{Tables: slices.Concat([][]impl.Row{e.Mem}, e.Tables), Next: e.Next}}
}

func wantCompactEngine(e impl.Engine, floor int64) impl.EngineResult {
	if code := wantEngineFault(e); code != impl.OK {
		return impl.EngineResult{Code: code}
	}
	if len(e.Tables) < 2 {
		return impl.EngineResult{Code: impl.ErrNone}
	}
	all := wantMergeTables(e.Tables)
	if all.Code != impl.OK {
		return impl.EngineResult{Code: all.Code}
	}
	after := cloneEngine(e)
	after.Tables = [][]impl.Row{wantCompactTable(all.Rows, floor).Rows}
	return impl.EngineResult{Engine: after}
}

func wantCrashEngine(e impl.Engine, kept int64) impl.EngineResult {
	if code := wantEngineFault(e); code != impl.OK {
		return impl.EngineResult{Code: code}
	}
	left := wantCrashLog(e.Log, kept)
	if left.Code != impl.OK {
		return impl.EngineResult{Code: left.Code}
	}
	after := cloneEngine(e)
	after.Log = wantTrimLog(left.Log).Log
	after.Mem = nil
	for _, record := range wantReadLog(after.Log).Records {
		after.Mem = append(after.Mem, wantUnpackWrites(record).Rows...)
	}
	after.Mem = inOrder(after.Mem)
	after.Next = 1 + max(wantGreatest(after.Mem), wantGreatest(after.Tables...))
	return impl.EngineResult{Engine: after}
}

func sameEngines(a, b impl.Engine) bool {
	sameTables := slices.EqualFunc(a.Tables, b.Tables, func(x, y []impl.Row) bool { return slices.Equal(x, y) })
	return sameLogs(a.Log, b.Log) && slices.Equal(a.Mem, b.Mem) && sameTables && a.Next == b.Next
}

func checkEngineResult(t *testing.T, what string, got, want impl.EngineResult) {
	t.Helper()
	if got.Code != want.Code || got.Version != want.Version || !sameEngines(got.Engine, want.Engine) {
		t.Errorf("%s:\ngot  %v\nwant %v", what, got, want)
	}
}

func checkEngine(t *testing.T, what string, got impl.EngineResult, want impl.Engine) {
	t.Helper()
	checkEngineResult(t, what, got, impl.EngineResult{Engine: want})
	checkCode(t, what+": EngineFault", impl.EngineFault(got.Engine), impl.OK)
}

func checkEngineCode(t *testing.T, what string, got impl.EngineResult, code int64) {
	t.Helper()
	checkEngineResult(t, what, got, impl.EngineResult{Code: code})
}

// checkEngineFaulted holds all functions that ask the EngineFault first
// against its code, whatever else they are given.
func checkEngineFaulted(t *testing.T, what string, e impl.Engine, code int64) {
	t.Helper()
	checkCode(t, what+": EngineFault", impl.EngineFault(e), code)
	for _, n := range []int64{farLow, -1, 0, 1, 5, farHigh} {
		checkText(t, what+": ReadKey", impl.ReadKey(e, "a", n), impl.TextResult{Code: code})
		checkEngineCode(t, what+": CompactEngine", impl.CompactEngine(e, n), code)
		checkEngineCode(t, what+": CrashEngine", impl.CrashEngine(e, n), code)
	}
	for _, list := range [][]impl.Write{nil, writes(put("a", "x")), writes(put("", "x")), writes(off("a"), off("a")), manyWrites(9, "")} {
		checkEngineCode(t, what+": WriteBatch", impl.WriteBatch(e, list, true), code)
		checkEngineCode(t, what+": WriteBatch", impl.WriteBatch(e, list, false), code)
	}
	checkEngineCode(t, what+": FlushEngine", impl.FlushEngine(e), code)
	checkRowsCode(t, what+": AllRows", impl.AllRows(e), code)
}
