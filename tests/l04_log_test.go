package tests

import (
	"bytes"
	"slices"
	"testing"

	"loop.example/g00203/impl"
)

func TestLogFault(t *testing.T) {
	cases := []struct {
		name          string
		synced, loose int
		want          int64
	}{
		{"nothing at all", 0, 0, impl.OK},
		{"a synced byte", 1, 0, impl.OK},
		{"a loose byte", 0, 1, impl.OK},
		{"all synced", 6000, 0, impl.OK},
		{"all loose", 0, 6000, impl.OK},
		{"some of each", 2500, 3500, impl.OK},
		{"all but one synced", 5999, 1, impl.OK},
		{"all but one loose", 1, 5999, impl.OK},
		{"one more, all synced", 6001, 0, impl.ErrMany},
		{"one more, all loose", 0, 6001, impl.ErrMany},
		{"one more, synced", 3001, 3000, impl.ErrMany},
		{"one more, loose", 3000, 3001, impl.ErrMany},
		{"one loose behind all", 6000, 1, impl.ErrMany},
		{"all loose behind one", 1, 6000, impl.ErrMany},
		{"twice as many", 6000, 6000, impl.ErrMany},
		{"very many", 100000, 100000, impl.ErrMany},
	}
	for _, c := range cases {
		checkCode(t, c.name, impl.LogFault(noughts(c.synced, c.loose)), c.want)
	}
	checkCode(t, "zero value", impl.LogFault(impl.Log{}), impl.OK)
}

// All others ask the LogFault first: ahead of a record, and of kept.
func TestLogFaultIsAskedFirst(t *testing.T) {
	far := []int64{farLow, -1, 0, 1, 6001, farHigh}
	for _, l := range []impl.Log{noughts(6001, 0), noughts(0, 6001), noughts(3000, 3001), noughts(1, 6000)} {
		for _, data := range [][]byte{nil, {1}, make([]byte, 500), make([]byte, 501)} {
			checkLogCode(t, "AppendLog", impl.AppendLog(l, data), impl.ErrMany)
		}
		for _, kept := range far {
			checkLogCode(t, "CrashLog", impl.CrashLog(l, kept), impl.ErrMany)
		}
		checkLogCode(t, "SyncLog", impl.SyncLog(l), impl.ErrMany)
		checkLogCode(t, "TrimLog", impl.TrimLog(l), impl.ErrMany)
		checkReadCode(t, "ReadLog", l, impl.ErrMany)
	}
	frames := bytes.Repeat(wantFrame([]byte{1}), 1200)
	for _, l := range []impl.Log{logOf(frames, []byte{0}), logOf(nil, append(slices.Clone(frames), 0))} {
		checkLogCode(t, "frames, TrimLog", impl.TrimLog(l), impl.ErrMany)
		checkReadCode(t, "frames, ReadLog", l, impl.ErrMany)
	}
}

func TestAppendLog(t *testing.T) {
	one, two, torn := wantFrame([]byte{1}), wantFrame([]byte("two")), []byte{0, 9, 1}
	cases := []struct {
		name string
		l    impl.Log
	}{
		{"nothing at all", impl.Log{}},
		{"empty ones", logOf([]byte{}, []byte{})},
		{"nothing loose", logOf(one, nil)},
		{"nothing synced", logOf(nil, one)},
		{"some of each", logOf(one, two)},
		{"torn synced ones", logOf(torn, nil)},
		{"torn loose ones", logOf(one, torn)},
	}
	for _, c := range cases {
		for _, size := range []int64{1, 2, 499, 500} {
			data := bytes.Repeat([]byte{7}, int(size))
			checkLog(t, c.name, impl.AppendLog(c.l, data), c.l.Synced, slices.Concat(c.l.Loose, wantFrame(data)))
		}
		for _, data := range [][]byte{nil, {}, make([]byte, 501), make([]byte, 6000), make([]byte, 70000)} {
			checkLogCode(t, c.name, impl.AppendLog(c.l, data), impl.ErrMany)
		}
	}
	checkLog(t, "the byte 1", impl.AppendLog(impl.Log{}, []byte{1}), nil, []byte{0, 1, 1, 3, 1})
}

// A record that comes just to MaxBytes has room; one byte more has none.
func TestAppendLogUpToMaxBytes(t *testing.T) {
	for _, size := range []int{1, 2, 100, 499, 500} {
		data := bytes.Repeat([]byte{3}, size)
		room := 6000 - len(wantFrame(data))
		for _, synced := range []int{0, 1, room / 2, room - 1, room} {
			full := noughts(synced, room-synced)
			checkLog(t, "just to MaxBytes", impl.AppendLog(full, data), full.Synced, slices.Concat(full.Loose, wantFrame(data)))
			checkLogCode(t, "one byte synced above", impl.AppendLog(noughts(synced+1, room-synced), data), impl.ErrMany)
			checkLogCode(t, "one byte loose above", impl.AppendLog(noughts(synced, room-synced+1), data), impl.ErrMany)
		}
	}
	for synced := range 7 {
		for _, l := range []impl.Log{noughts(6000-synced, synced), noughts(synced, 6000-synced), noughts(5996-synced, synced)} {
			checkLogCode(t, "no room", impl.AppendLog(l, []byte{1}), impl.ErrMany)
		}
	}
	checkLogCode(t, "no record, and room", impl.AppendLog(noughts(5996, 0), nil), impl.ErrMany)
}

func TestSyncLog(t *testing.T) {
	one, two := wantFrame([]byte{1}), wantFrame([]byte("two"))
	cases := []struct {
		name string
		l    impl.Log
	}{
		{"nothing at all", impl.Log{}},
		{"empty ones", logOf([]byte{}, []byte{})},
		{"nothing loose", logOf(one, nil)},
		{"nothing synced", logOf(nil, one)},
		{"some of each", logOf(one, two)},
		{"a record in both", logOf(two[:3], two[3:])},
		{"torn ones", logOf(one[:2], two[:5])},
		{"all synced", noughts(6000, 0)},
		{"all loose", noughts(0, 6000)},
		{"as many as may be", noughts(1, 5999)},
	}
	for _, c := range cases {
		checkLog(t, c.name, impl.SyncLog(c.l), lineOf(c.l), nil)
		checkLog(t, c.name+", twice", impl.SyncLog(impl.SyncLog(c.l).Log), lineOf(c.l), nil)
	}
}

func TestCrashLog(t *testing.T) {
	one, two := wantFrame([]byte{1}), wantFrame([]byte("two"))
	logs := []impl.Log{
		{}, logOf([]byte{}, []byte{}), logOf(one, nil), logOf(nil, one), logOf(one, two), logOf(two[:3], two[3:]),
		noughts(6000, 0), noughts(0, 6000), noughts(2500, 3500),
	}
	for _, l := range logs {
		loose := int64(len(l.Loose))
		for kept := range loose + 1 {
			checkLog(t, "kept", impl.CrashLog(l, kept), slices.Concat(l.Synced, l.Loose[:kept]), nil)
		}
		for _, kept := range []int64{farLow, farLow + 1, -6000, -2, -1, loose + 1, loose + 2, 6001, 1 << 32, 1<<32 + loose, farHigh - 1, farHigh} {
			checkLogCode(t, "kept out of range", impl.CrashLog(l, kept), impl.ErrRange)
		}
	}
	all := int64(len(one) + len(two))
	checkLogCode(t, "synced ones are not kept", impl.CrashLog(logOf(one, two), all), impl.ErrRange)
}

func TestReadLog(t *testing.T) {
	a, b, c := []byte{1}, []byte("two"), bytes.Repeat([]byte{9}, 500)
	torn := wantFrame(b)[:6]
	changed := wantFrame(b)
	changed[5]++
	cases := []struct {
		name string
		l    impl.Log
		want [][]byte
	}{
		{"nothing at all", impl.Log{}, nil},
		{"empty ones", logOf([]byte{}, []byte{}), nil},
		{"noughts", noughts(6000, 0), nil},
		{"nothing loose", logOf(framed(a, b), nil), [][]byte{a, b}},
		{"nothing synced", logOf(nil, framed(a, b)), [][]byte{a, b}},
		{"some of each", logOf(framed(c, a), framed(b)), [][]byte{c, a, b}},
		{"torn loose ones", logOf(framed(a), append(framed(b), torn...)), [][]byte{a, b}},
		{"torn loose ones alone", logOf(nil, torn), nil},
		{"torn synced ones", logOf(append(framed(a), torn...), nil), [][]byte{a}},
		{"torn synced ones, and loose ones behind them", logOf(append(framed(a), torn...), framed(b, c)), [][]byte{a}},
		{"a changed synced one", logOf(append(framed(a), changed...), framed(c)), [][]byte{a}},
		{"a changed loose one", logOf(framed(a), append(changed, framed(c)...)), [][]byte{a}},
		{"torn loose ones ahead of others", logOf(framed(a), append(slices.Clone(torn), framed(c)...)), [][]byte{a}},
	}
	for _, c := range cases {
		checkRead(t, c.name, c.l, c.want...)
	}
	line := framed(a, b, c)
	for at := range len(line) + 1 {
		checkRead(t, "cut between synced and loose", logOf(line[:at], line[at:]), a, b, c)
	}
	frames := slices.Repeat([][]byte{{1}}, 1200)
	checkRead(t, "all bytes are used", logOf(framed(frames[:700]...), framed(frames[700:]...)), frames...)
}

func TestTrimLog(t *testing.T) {
	a, b := []byte{1}, []byte("two")
	line := framed(a, b)
	torn := wantFrame(b)[:6]
	changed := wantFrame(b)
	changed[5]++
	cases := []struct {
		name string
		l    impl.Log
		want []byte
	}{
		{"nothing at all", impl.Log{}, nil},
		{"empty ones", logOf([]byte{}, []byte{}), nil},
		{"nothing torn", logOf(line, nil), line},
		{"nothing synced", logOf(nil, line), nil},
		{"loose ones", logOf(line, line), line},
		{"torn loose ones", logOf(line, torn), line},
		{"torn synced ones", logOf(slices.Concat(line, torn), nil), line},
		{"torn synced ones alone", logOf(torn, nil), nil},
		{"torn synced ones, and loose ones", logOf(slices.Concat(line, torn), line), line},
		{"a changed one", logOf(slices.Concat(line, changed, line), line), line},
		{"noughts", noughts(6000, 0), nil},
		{"loose noughts", noughts(0, 6000), nil},
		{"one byte synced, all others loose", noughts(1, 5999), nil},
		{"all bytes", logOf(bytes.Repeat(wantFrame(a), 1200), nil), bytes.Repeat(wantFrame(a), 1200)},
	}
	for _, c := range cases {
		checkLog(t, c.name, impl.TrimLog(c.l), c.want, nil)
		checkLog(t, c.name+", twice", impl.TrimLog(impl.TrimLog(c.l).Log), c.want, nil)
	}
	first := len(wantFrame(a))
	for at := range len(line) {
		want := line[:0]
		if at >= first {
			want = line[:first]
		}
		checkLog(t, "a record that ends in the loose ones", impl.TrimLog(logOf(line[:at], line[at:])), want, nil)
	}
}

// The words of the chapter, told once more, hold at whatever is thrown.
func TestLogsThatAreThrown(t *testing.T) {
	d := dice(51)
	told := map[int64]int{}
	for range 6000 {
		l := d.anyLog()
		checkCode(t, "LogFault", impl.LogFault(l), wantLogFault(l))
		checkLogResult(t, "SyncLog", impl.SyncLog(l), wantSyncLog(l))
		checkLogResult(t, "TrimLog", impl.TrimLog(l), wantTrimLog(l))
		data := d.bytes(d.below(8))
		if d.below(3) == 0 {
			data = d.bytes(490 + d.below(16))
		}
		checkLogResult(t, "AppendLog", impl.AppendLog(l, data), wantAppendLog(l, data))
		kept := d.below(int64(len(l.Loose))+3) - 1
		checkLogResult(t, "CrashLog", impl.CrashLog(l, kept), wantCrashLog(l, kept))
		r, want := impl.ReadLog(l), wantReadLog(l)
		if r.Code != want.Code || r.Used != want.Used || !sameRecords(r.Records, want.Records) {
			t.Errorf("ReadLog(%v) = %v, want %v", l, r, want)
		}
		told[impl.LogFault(l)]++
		told[100+impl.AppendLog(l, data).Code]++
		told[200+impl.CrashLog(l, kept).Code]++
		if t.Failed() {
			t.FailNow()
		}
	}
	for _, code := range []int64{impl.OK, impl.ErrMany, 100, 100 + impl.ErrMany, 200, 200 + impl.ErrMany, 200 + impl.ErrRange} {
		if told[code] < 50 {
			t.Errorf("%d was told %d times only", code, told[code])
		}
	}
}
