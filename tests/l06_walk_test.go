package tests

import (
	"slices"
	"strings"
	"testing"

	"loop.example/g00203/impl"
)

// walked is an engine that calls made of a new one, and what they should have
// left in its log: the batches, in their order.
type walked struct {
	engine  impl.Engine
	batches []batch
}

// base is the engine as if nothing had stood in its log.
func (w walked) base() impl.Engine {
	return impl.Engine{Tables: w.engine.Tables, Next: w.engine.Next}
}

// wholeIn is how many batches wholly stand in the first bytes of the log.
func (w walked) wholeIn(bytes int64) int {
	n := 0
	for n < len(w.batches) && int64(len(frames(w.batches[:n+1]))) <= bytes {
		n++
	}
	return n
}

// writes throws right ones.
func (d *dice) writes(most int64) []impl.Write {
	n := 1 + d.below(most)
	var list []impl.Write
	for _, at := range d.places(len(oddKeys))[:n] {
		if d.below(3) == 0 {
			list = append(list, off(oddKeys[at]))
		} else {
			list = append(list, put(oddKeys[at], oddValues[d.below(int64(len(oddValues)))]))
		}
	}
	return list
}

// places are the numbers below n in an order that is thrown.
func (d *dice) places(n int) []int {
	var list []int
	for i := range n {
		list = slices.Insert(list, int(d.below(int64(i+1))), i)
	}
	return list
}

// anyWrites throws some that may have faults of every kind.
func (d *dice) anyWrites() []impl.Write {
	list := d.writes(8)
	for range d.below(3) {
		at := d.below(int64(len(list)))
		switch d.below(7) {
		case 0:
			list[at].Key = []string{"", strings.Repeat("k", 20), strings.Repeat("k", 21), strings.Repeat("k", 256)}[d.below(4)]
		case 1:
			list[at].Value = strings.Repeat("v", []int{100, 101, 255, 300}[d.below(4)])
		case 2:
			list[at].Gone = !list[at].Gone
		case 3:
			list[at].Key = list[0].Key
		case 4:
			list = append(list, d.writes(8)...)
		case 5:
			for i := range list {
				list[i].Value = strings.Repeat("v", 60)
				list[i].Gone = false
			}
		case 6:
			list = sizedWrites(498 + int(d.below(6)))
		}
	}
	return list
}

// step is one call that tells no code; which one is thrown.
func (d *dice) step(t *testing.T, w walked) walked {
	t.Helper()
	var r impl.EngineResult
	switch kind := d.below(12); {
	case kind == 0 && len(w.engine.Mem) > 0 && len(w.engine.Tables) < 6:
		r = impl.FlushEngine(w.engine)
		w.batches = nil
	case kind == 1 && len(w.engine.Tables) > 1:
		r = impl.CompactEngine(w.engine, d.below(w.engine.Next+1))
	case kind == 2:
		kept := d.below(int64(len(w.engine.Log.Loose)) + 1)
		r = impl.CrashEngine(w.engine, kept)
		w.batches = w.batches[:w.wholeIn(int64(len(w.engine.Log.Synced))+kept)]
	default:
		list := d.writes(3)
		r = impl.WriteBatch(w.engine, list, kind%2 == 0)
		w.batches = append(slices.Clone(w.batches), batchOf(w.engine.Next, list...))
	}
	checkCode(t, "a step", r.Code, impl.OK)
	checkCode(t, "EngineFault behind a step", impl.EngineFault(r.Engine), impl.OK)
	w.engine = r.Engine
	return w
}

func (d *dice) walk(t *testing.T, next int64, steps int64) walked {
	t.Helper()
	w := walked{engine: impl.NewEngine(next).Engine}
	for range steps {
		w = d.step(t, w)
	}
	return w
}

// manyWalked are engines of all ages: new ones, such with an empty log, with
// tables and without.
func manyWalked(t *testing.T, d *dice, times int) []walked {
	t.Helper()
	list := []walked{d.walk(t, 1, 0), d.walk(t, 999970, 0), d.walk(t, 7, 1), d.walk(t, 999970, 20)}
	for range times {
		w := d.walk(t, 1+d.below(5), d.below(25))
		if d.below(4) == 0 && len(w.engine.Mem) > 0 && len(w.engine.Tables) < 6 {
			w = walked{engine: impl.FlushEngine(w.engine).Engine}
		}
		list = append(list, w)
	}
	return list
}

// anyEngine throws one that may have faults of every kind.
func (d *dice) anyEngine(t *testing.T) impl.Engine {
	t.Helper()
	e := d.walk(t, 1+d.below(4), d.below(16)).engine
	for range d.below(3) {
		d.spoilEngine(&e)
	}
	return e
}

func (d *dice) spoilEngine(e *impl.Engine) {
	switch d.below(12) {
	case 0:
		e.Next = []int64{farLow, -1, 0, 1, 2, 1000000, 1000001, farHigh}[d.below(8)]
	case 1:
		e.Next += d.below(5) - 2
	case 2:
		e.Mem = d.spoiledTable(e.Mem)
	case 3:
		if len(e.Mem) > 0 {
			at := int(d.below(int64(len(e.Mem))))
			e.Mem = slices.Delete(e.Mem, at, at+1)
		}
	case 4:
		if len(e.Tables) > 0 {
			at := d.below(int64(len(e.Tables)))
			e.Tables[at] = d.spoiledTable(e.Tables[at])
		}
	case 5:
		e.Tables = append(e.Tables, d.table(1+d.below(6)))
	case 6:
		for range d.below(7) {
			e.Tables = append(e.Tables, nil)
		}
	case 7:
		e.Tables = append(e.Tables, manyRows(int(190+d.below(12)), 1))
	default:
		e.Log = d.spoiledLog(*e)
	}
}

// spoiledLog changes the bytes alone, so that Mem is not theirs any more.
func (d *dice) spoiledLog(e impl.Engine) impl.Log {
	l := e.Log
	switch d.below(6) {
	case 0:
		l.Loose = append(l.Loose, d.bytes(1+d.below(5))...)
	case 1:
		l.Loose = l.Loose[:d.below(int64(len(l.Loose))+1)]
	case 2:
		l.Loose = append(l.Loose, wantFrame(d.bytes(1+d.below(30)))...)
	case 3:
		l.Loose = append(l.Loose, batchOf(d.below(e.Next+2), d.writes(2)...).frame()...)
	case 4:
		if len(l.Synced) > 0 {
			l.Synced[d.below(int64(len(l.Synced)))] ^= byte(1 + d.below(255))
		}
	case 5:
		l.Synced = append(l.Synced, make([]byte, 6001-len(lineOf(l)))...)
	}
	return l
}
