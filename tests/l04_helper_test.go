package tests

import (
	"bytes"
	"slices"
	"testing"

	"loop.example/g00203/impl"
)

func logOf(synced, loose []byte) impl.Log {
	return impl.Log{Synced: synced, Loose: loose}
}

// noughts is a log of that many bytes of 0, in which no record stands.
func noughts(synced, loose int) impl.Log {
	return logOf(make([]byte, synced), make([]byte, loose))
}

func sameLogs(a, b impl.Log) bool {
	return bytes.Equal(a.Synced, b.Synced) && bytes.Equal(a.Loose, b.Loose)
}

func lineOf(l impl.Log) []byte {
	return slices.Concat(l.Synced, l.Loose)
}

// stretch throws bytes of a log: whole frames, and more often than not
// something torn or wrong among them or behind them.
func (d *dice) stretch(most int64) []byte {
	data := framed(d.records(most)...)
	switch d.below(5) {
	case 0:
		data = append(data, d.bytes(d.below(6))...)
	case 1:
		frame := wantFrame(d.bytes(1 + d.below(9)))
		data = append(data, frame[:d.below(int64(len(frame)))]...)
	case 2:
		if len(data) > 0 {
			data[d.below(int64(len(data)))] ^= byte(1 + d.below(255))
		}
	}
	return data
}

// log throws one, at times cut at any place of a line of frames, so that a
// record may begin in the synced bytes and end in the loose ones.
func (d *dice) log() impl.Log {
	if d.below(3) > 0 {
		return logOf(d.stretch(5), d.stretch(5))
	}
	line := d.stretch(8)
	at := d.below(int64(len(line) + 1))
	return logOf(slices.Clone(line[:at]), slices.Clone(line[at:]))
}

// anyLog is at times so long that it has too many bytes, or nearly.
func (d *dice) anyLog() impl.Log {
	l := d.log()
	if d.below(4) > 0 {
		return l
	}
	size := 6000 - int64(len(lineOf(l))) + d.below(600) - 560
	for size > 0 {
		part := min(size, 1+d.below(504))
		data := d.bytes(part)
		if part > 4 {
			data = wantFrame(data[4:])
		}
		if d.below(2) == 0 {
			l.Synced = append(l.Synced, data...)
		} else {
			l.Loose = append(l.Loose, data...)
		}
		size -= part
	}
	return l
}

// The want functions tell chapter 4 once more.
func wantLogFault(l impl.Log) int64 {
	if len(lineOf(l)) > 6000 {
		return impl.ErrMany
	}
	return impl.OK
}

func wantAppendLog(l impl.Log, data []byte) impl.LogResult {
	behind := logOf(l.Synced, slices.Concat(l.Loose, wantFrame(data)))
	if wantLogFault(l) != impl.OK || len(data) == 0 || len(data) > 500 || wantLogFault(behind) != impl.OK {
		return impl.LogResult{Code: impl.ErrMany}
	}
	return impl.LogResult{Log: behind}
}

func wantSyncLog(l impl.Log) impl.LogResult {
	if code := wantLogFault(l); code != impl.OK {
		return impl.LogResult{Code: code}
	}
	return impl.LogResult{Log: logOf(lineOf(l), nil)}
}

func wantCrashLog(l impl.Log, kept int64) impl.LogResult {
	if code := wantLogFault(l); code != impl.OK {
		return impl.LogResult{Code: code}
	}
	if kept < 0 || kept > int64(len(l.Loose)) {
		return impl.LogResult{Code: impl.ErrRange}
	}
	return impl.LogResult{Log: logOf(slices.Concat(l.Synced, l.Loose[:kept]), nil)}
}

func wantReadLog(l impl.Log) impl.RecordsResult {
	return wantUnframeAll(lineOf(l))
}

func wantTrimLog(l impl.Log) impl.LogResult {
	if code := wantLogFault(l); code != impl.OK {
		return impl.LogResult{Code: code}
	}
	return impl.LogResult{Log: logOf(l.Synced[:wantUnframeAll(l.Synced).Used], nil)}
}

func checkLog(t *testing.T, what string, got impl.LogResult, synced, loose []byte) {
	t.Helper()
	if got.Code != impl.OK || !sameLogs(got.Log, logOf(synced, loose)) {
		t.Errorf("%s: code %d, synced %v, loose %v; want %v, %v", what, got.Code, got.Log.Synced, got.Log.Loose, synced, loose)
	}
}

func checkLogCode(t *testing.T, what string, got impl.LogResult, code int64) {
	t.Helper()
	if got.Code != code || len(got.Log.Synced) != 0 || len(got.Log.Loose) != 0 {
		t.Errorf("%s: code %d, %d synced, %d loose; want code %d alone", what, got.Code, len(got.Log.Synced), len(got.Log.Loose), code)
	}
}

func checkLogResult(t *testing.T, what string, got, want impl.LogResult) {
	t.Helper()
	if want.Code != impl.OK {
		checkLogCode(t, what, got, want.Code)
		return
	}
	checkLog(t, what, got, want.Log.Synced, want.Log.Loose)
}

func checkRead(t *testing.T, what string, l impl.Log, want ...[]byte) {
	t.Helper()
	used := int64(len(framed(want...)))
	if r := impl.ReadLog(l); r.Code != impl.OK || r.Used != used || !sameRecords(r.Records, want) {
		t.Errorf("%s: code %d, used %d, records %v; want used %d, %v", what, r.Code, r.Used, r.Records, used, want)
	}
}

func checkReadCode(t *testing.T, what string, l impl.Log, code int64) {
	t.Helper()
	if r := impl.ReadLog(l); r.Code != code || r.Used != 0 || len(r.Records) != 0 {
		t.Errorf("%s: code %d, used %d, %d records; want code %d alone", what, r.Code, r.Used, len(r.Records), code)
	}
}
