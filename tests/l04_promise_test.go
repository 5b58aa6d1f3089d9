package tests

import (
	"bytes"
	"reflect"
	"slices"
	"testing"

	"loop.example/g00203/impl"
)

// appended puts the records behind l, one call each.
func appended(t *testing.T, l impl.Log, records [][]byte) impl.Log {
	t.Helper()
	for _, record := range records {
		r := impl.AppendLog(l, record)
		if r.Code != impl.OK {
			t.Fatalf("AppendLog of %d bytes: code %d", len(record), r.Code)
		}
		l = r.Log
	}
	return l
}

// builtLog is a log of records that are synced and of others that are not.
func builtLog(t *testing.T, synced, loose [][]byte) impl.Log {
	t.Helper()
	r := impl.SyncLog(appended(t, impl.Log{}, synced))
	if r.Code != impl.OK {
		t.Fatalf("SyncLog: code %d", r.Code)
	}
	return appended(t, r.Log, loose)
}

// manyLogs are built ones, and any: torn ones, too.
func manyLogs(t *testing.T, d *dice, times int) []impl.Log {
	t.Helper()
	long := [][]byte{d.bytes(500), d.bytes(1), d.bytes(500)}
	list := []impl.Log{
		{}, builtLog(t, long, nil), builtLog(t, nil, long), builtLog(t, long, long),
		builtLog(t, [][]byte{{1}}, [][]byte{{0}, {0}, {0}}), noughts(9, 9),
	}
	for range times {
		list = append(list, builtLog(t, d.records(4), d.records(4)), d.log())
	}
	return list
}

// Promise 5: behind a crash all records that were synced are there, and of
// the others the first ones.
func TestSyncedRecordsOutlastACrash(t *testing.T) {
	d := dice(52)
	torn, cut := 0, 0
	for _, l := range manyLogs(t, &d, 150) {
		lasting := impl.ReadLog(logOf(l.Synced, nil))
		all := impl.ReadLog(l)
		if lasting.Code != impl.OK || all.Code != impl.OK {
			t.Fatalf("%v: codes %d, %d", l, lasting.Code, all.Code)
		}
		for kept := range int64(len(l.Loose)) + 1 {
			c := impl.CrashLog(l, kept)
			r := impl.ReadLog(c.Log)
			if c.Code != impl.OK || r.Code != impl.OK {
				t.Fatalf("%v, kept %d: codes %d, %d", l, kept, c.Code, r.Code)
			}
			if len(r.Records) < len(lasting.Records) || len(r.Records) > len(all.Records) {
				t.Fatalf("%v, kept %d: %d records; %d were synced, %d in all", l, kept, len(r.Records), len(lasting.Records), len(all.Records))
			}
			if !sameRecords(r.Records, all.Records[:len(r.Records)]) || !sameRecords(r.Records[:len(lasting.Records)], lasting.Records) {
				t.Fatalf("%v, kept %d: %v; %v in all", l, kept, r.Records, all.Records)
			}
			if r.Used < int64(len(c.Log.Synced)) {
				torn++
			}
			if len(r.Records) > len(lasting.Records) && len(r.Records) < len(all.Records) {
				cut++
			}
		}
	}
	if torn < 500 || cut < 500 {
		t.Errorf("%d torn, %d cut only", torn, cut)
	}
}

// Promise 5: a crash keeps as many records as wholly stand in what it left.
func TestACrashKeepsTheFirstRecords(t *testing.T) {
	d := dice(53)
	for range 100 {
		synced, loose := d.records(4), d.records(6)
		l := builtLog(t, synced, loose)
		for kept := range int64(len(l.Loose)) + 1 {
			whole := 0
			for whole < len(loose) && int64(len(framed(loose[:whole+1]...))) <= kept {
				whole++
			}
			want := slices.Concat(synced, loose[:whole])
			checkRead(t, "behind a crash", impl.CrashLog(l, kept).Log, want...)
			trimmed := impl.TrimLog(impl.CrashLog(l, kept).Log)
			checkLog(t, "trimmed", trimmed, framed(want...), nil)
		}
		if t.Failed() {
			t.FailNow()
		}
	}
}

// Promise 5: what is appended to a log in which nothing is torn is read
// behind all else.
func TestAppendedIsReadBehindAllElse(t *testing.T) {
	d := dice(54)
	asked := 0
	logs := manyLogs(t, &d, 300)
	for _, l := range slices.Clone(logs) {
		logs = append(logs, impl.TrimLog(l).Log)
	}
	for _, l := range logs {
		before := impl.ReadLog(l)
		if before.Used != int64(len(lineOf(l))) {
			continue
		}
		asked++
		for _, data := range [][]byte{{1}, {0}, d.bytes(1 + d.below(9)), d.bytes(500), make([]byte, 500)} {
			a := impl.AppendLog(l, data)
			want := slices.Concat(before.Records, [][]byte{data})
			if r := impl.ReadLog(a.Log); a.Code != impl.OK || r.Code != impl.OK || !sameRecords(r.Records, want) || r.Used != int64(len(lineOf(a.Log))) {
				t.Fatalf("%v with %v behind: codes %d, %d, %v", l, data, a.Code, r.Code, r.Records)
			}
			if r := impl.ReadLog(impl.SyncLog(a.Log).Log); !sameRecords(r.Records, want) {
				t.Fatalf("%v with %v behind, synced: %v", l, data, r.Records)
			}
			if !bytes.Equal(a.Log.Synced, l.Synced) {
				t.Fatalf("%v with %v behind: synced %v", l, data, a.Log.Synced)
			}
		}
	}
	if asked < 500 {
		t.Errorf("%d logs without a torn end only", asked)
	}
}

// logGiven are arguments of chapter 4.
type logGiven struct {
	log  impl.Log
	data []byte
	kept int64
}

func (a logGiven) roomy() logGiven {
	return logGiven{log: logOf(roomyBytes(a.log.Synced), roomyBytes(a.log.Loose)), data: roomyBytes(a.data), kept: a.kept}
}

func (a logGiven) tight() logGiven {
	return logGiven{log: logOf(slices.Clip(slices.Clone(a.log.Synced)), slices.Clip(slices.Clone(a.log.Loose))), data: slices.Clip(slices.Clone(a.data)), kept: a.kept}
}

// oneMemory is a with all of its bytes in one piece, each part with the next
// one as the room behind it.
func (a logGiven) oneMemory() logGiven {
	line := slices.Concat(a.log.Synced, a.log.Loose, a.data, []byte{0, 1, 1, 3, 1})
	first, second := len(a.log.Synced), len(a.log.Synced)+len(a.log.Loose)
	return logGiven{log: logOf(line[:first], line[first:second]), data: line[second : second+len(a.data)], kept: a.kept}
}

// whole copies all that is there, the room behind it too.
func (a logGiven) whole() any {
	list := []any{a.kept}
	for _, part := range [][]byte{a.log.Synced, a.log.Loose, a.data} {
		list = append(list, len(part), slices.Clone(part[:cap(part)]))
	}
	return list
}

func (a logGiven) spoil() {
	spoilAll(a.log.Synced, 77)
	spoilAll(a.log.Loose, 77)
	spoilAll(a.data, 77)
}

func spoilLog(l impl.Log) func() {
	return func() {
		spoilAll(l.Synced, 77)
		spoilAll(l.Loose, 78)
	}
}

// logCalls are all functions of chapter 4; each answer comes with all that
// can be written into it.
var logCalls = []struct {
	name string
	call func(a logGiven) (answer any, spoil func())
}{
	{"LogFault", func(a logGiven) (any, func()) {
		return impl.LogFault(a.log), func() {}
	}},
	{"AppendLog", func(a logGiven) (any, func()) {
		r := impl.AppendLog(a.log, a.data)
		return r, spoilLog(r.Log)
	}},
	{"SyncLog", func(a logGiven) (any, func()) {
		r := impl.SyncLog(a.log)
		return r, spoilLog(r.Log)
	}},
	{"CrashLog", func(a logGiven) (any, func()) {
		r := impl.CrashLog(a.log, a.kept)
		return r, spoilLog(r.Log)
	}},
	{"ReadLog", func(a logGiven) (any, func()) {
		r := impl.ReadLog(a.log)
		return r, func() {
			for _, record := range r.Records {
				spoilAll(record, 77)
			}
			spoilAll(r.Records, []byte{78})
		}
	}},
	{"TrimLog", func(a logGiven) (any, func()) {
		r := impl.TrimLog(a.log)
		return r, spoilLog(r.Log)
	}},
}

// logArgs are right and wrong ones for every function of chapter 4.
func logArgs() []logGiven {
	d := dice(55)
	args := []logGiven{
		{},
		{log: logOf([]byte{}, []byte{}), data: []byte{}},
		{log: noughts(6000, 0), data: []byte{1}},
		{log: noughts(0, 6000), data: []byte{1}, kept: 6000},
		{log: noughts(6001, 0), data: []byte{1}},
		{log: noughts(1, 6000), data: []byte{1}, kept: 6000},
		{log: noughts(5000, 496), data: make([]byte, 500), kept: 496},
		{log: noughts(5000, 497), data: make([]byte, 500), kept: 498},
		{log: logOf(framed([]byte{1}), framed([]byte("two"))), data: make([]byte, 501), kept: farLow},
		{log: logOf(framed([]byte{1}), nil), data: []byte{2}, kept: farHigh},
		{log: logOf(nil, framed([]byte{1})), data: []byte{2}, kept: 5},
		{log: logOf(nil, framed([]byte{1})), data: []byte{2}, kept: -1},
		{log: logOf(bytes.Repeat(wantFrame([]byte{1}), 600), bytes.Repeat(wantFrame([]byte{1}), 600)), kept: 600},
	}
	for range 300 {
		l := d.log()
		args = append(args,
			logGiven{log: l, data: d.bytes(1 + d.below(20)), kept: d.below(int64(len(l.Loose) + 1))},
			logGiven{log: d.anyLog(), data: d.bytes(d.below(520)), kept: edgeNumbers[d.below(int64(len(edgeNumbers)))]})
	}
	return args
}

// Promise 1: an answer at every argument that hangs on it alone, in new memory.
func TestLogAnswersAreNewMemory(t *testing.T) {
	for _, a := range logArgs() {
		for _, f := range logCalls {
			checkLogMemory(t, f.name, f.call, a, logGiven.roomy)
			checkLogMemory(t, f.name, f.call, a, logGiven.oneMemory)
		}
	}
}

func checkLogMemory(t *testing.T, name string, call func(logGiven) (any, func()), a logGiven, laid func(logGiven) logGiven) {
	t.Helper()
	arg := laid(a)
	before := arg.whole()
	first, spoilFirst := call(arg)
	second, spoilSecond := call(arg)
	if !reflect.DeepEqual(arg.whole(), before) {
		t.Fatalf("%s(%v) changed its argument: %v", name, a, arg)
	}
	if !reflect.DeepEqual(first, second) {
		t.Fatalf("%s(%v) answers %v, then %v", name, a, first, second)
	}
	third, _ := call(laid(a))
	spoilFirst()
	if !reflect.DeepEqual(arg.whole(), before) {
		t.Fatalf("%s(%v): what is written into the answer changes the argument", name, a)
	}
	arg.spoil()
	if !reflect.DeepEqual(second, third) {
		t.Fatalf("%s(%v): two answers or an answer and an argument share memory: %v, %v", name, a, second, third)
	}
	spoilSecond()
	if again, _ := call(laid(a)); !reflect.DeepEqual(third, again) {
		t.Fatalf("%s(%v) answers %v, then %v", name, a, third, again)
	}
}

// Promise 1: what stands in the room behind an argument, or that it has none,
// is not to be seen in an answer.
func TestLogAnswersHangOnTheArgumentAlone(t *testing.T) {
	for _, a := range logArgs() {
		for _, f := range logCalls {
			first, _ := f.call(a.tight())
			for _, other := range []logGiven{a.roomy(), a.oneMemory()} {
				if second, _ := f.call(other); !reflect.DeepEqual(first, second) {
					t.Fatalf("%s(%v) answers %v, and with room behind %v", f.name, a, first, second)
				}
			}
		}
	}
}

// Promise 1: Synced and Loose of one answer share no memory, the room behind
// them among it, and neither grows into the other.
func TestSyncedAndLooseShareNothing(t *testing.T) {
	calls := map[string]func(a logGiven) impl.LogResult{
		"AppendLog": func(a logGiven) impl.LogResult { return impl.AppendLog(a.log, a.data) },
		"SyncLog":   func(a logGiven) impl.LogResult { return impl.SyncLog(a.log) },
		"CrashLog":  func(a logGiven) impl.LogResult { return impl.CrashLog(a.log, a.kept) },
		"TrimLog":   func(a logGiven) impl.LogResult { return impl.TrimLog(a.log) },
	}
	both := 0
	for _, a := range logArgs() {
		for name, call := range calls {
			l := call(a.oneMemory()).Log
			if len(l.Synced) > 0 && len(l.Loose) > 0 {
				both++
			}
			synced, loose := slices.Clone(l.Synced), slices.Clone(l.Loose)
			_ = append(l.Synced, 1, 2, 3, 4, 5)
			if !bytes.Equal(l.Loose, loose) {
				t.Fatalf("%s(%v): Synced grows into Loose", name, a)
			}
			_ = append(l.Loose, 1, 2, 3, 4, 5)
			spoilAll(l.Loose, 77)
			if !bytes.Equal(l.Synced, synced) {
				t.Fatalf("%s(%v): what is written into Loose changes Synced", name, a)
			}
		}
	}
	if both < 200 {
		t.Errorf("%d answers with both only", both)
	}
}

// Nil and what is empty are one value: they have one answer.
func TestLogOfNilAndEmpty(t *testing.T) {
	empty := make([]byte, 0, 9)
	frame := framed([]byte{1})
	pairs := [][2]logGiven{
		{{}, {log: logOf(empty, empty), data: empty}},
		{{data: []byte{1}}, {log: logOf(empty, []byte{}), data: []byte{1}}},
		{{log: logOf(frame, nil), data: frame}, {log: logOf(frame, empty), data: frame}},
		{{log: logOf(nil, frame), data: frame, kept: 2}, {log: logOf(empty, frame), data: frame, kept: 2}},
		{{log: logOf(frame, frame), kept: 6}, {log: logOf(frame, frame), data: empty, kept: 6}},
	}
	for _, f := range logCalls {
		for _, p := range pairs {
			first, _ := f.call(p[0])
			second, _ := f.call(p[1])
			if !reflect.DeepEqual(first, second) {
				t.Errorf("%s: nil %v, empty %v", f.name, first, second)
			}
		}
	}
}
