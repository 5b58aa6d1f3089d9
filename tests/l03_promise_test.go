package tests

import (
	"bytes"
	"reflect"
	"slices"
	"strings"
	"testing"

	"loop.example/g00203/impl"
)

// Promise 4: numbers are read back.
func TestNumbersAreReadBack(t *testing.T) {
	d := dice(41)
	numbers := slices.Clone(edgeNumbers)
	for bit := range 64 {
		numbers = append(numbers, int64(uint64(1)<<bit), ^int64(uint64(1)<<bit))
	}
	for range 5000 {
		numbers = append(numbers, d.number())
	}
	below := 0
	for _, n := range numbers {
		data := impl.PackNumber(n)
		if r := impl.UnpackNumber(data); len(data) != 8 || r.Code != impl.OK || r.Value != n {
			t.Fatalf("%d is packed as %v and read back as %v", n, data, r)
		}
		if n < 0 {
			below++
		}
	}
	if below < 1000 {
		t.Errorf("%d numbers below 0 only", below)
	}
}

// Promise 4, the other way: all eight bytes are some number's.
func TestEightBytesAreANumber(t *testing.T) {
	d := dice(42)
	for range 5000 {
		data := d.bytes(8)
		r := impl.UnpackNumber(data)
		if r.Code != impl.OK || !bytes.Equal(impl.PackNumber(r.Value), data) {
			t.Fatalf("UnpackNumber(%v) = %v", data, r)
		}
	}
}

// Promise 4: contracts are read back.
func TestContractsAreReadBack(t *testing.T) {
	d := dice(43)
	const most = impl.MaxAmount
	list := []impl.Contract{pair(1), pair(maxId), chain(3, 2), chain(3, 8), contract(3, leg(0, 0, 0, -most), leg(2, 5, 0, most))}
	for range 3000 {
		list = append(list, d.rightContract())
	}
	for _, c := range list {
		p := impl.PackContract(c)
		r := impl.UnpackContract(p.Bytes)
		if p.Code != impl.OK || r.Code != impl.OK || !sameContracts(r.Contract, c) || !impl.SameContract(r.Contract, c) {
			t.Fatalf("%v is packed as %v and read back as %v", c, p, r)
		}
	}
}

// framedByProgram sets the frames one behind the other and tells where each
// of them ends.
func framedByProgram(t *testing.T, records [][]byte) (data []byte, ends []int) {
	t.Helper()
	for _, r := range records {
		f := impl.FrameRecord(r)
		if f.Code != impl.OK {
			t.Fatalf("FrameRecord(%v) = %v", r, f)
		}
		data = append(data, f.Bytes...)
		ends = append(ends, len(data))
	}
	return data, ends
}

// Promise 4: records are told, each and in order, and of every beginning of
// the bytes the first ones.
func TestRecordsOfEveryBeginningAreTold(t *testing.T) {
	d := dice(44)
	lists := [][][]byte{nil, {{1}}, {{0}, {0}, {0}}, {d.bytes(500), d.bytes(1), d.bytes(500)}, {make([]byte, 500), make([]byte, 3)}}
	for range 120 {
		lists = append(lists, d.records(8))
	}
	for _, records := range lists {
		data, ends := framedByProgram(t, records)
		for size := range len(data) + 1 {
			told, used := 0, 0
			for i, end := range ends {
				if end <= size {
					told, used = i+1, end
				}
			}
			r := impl.UnframeAll(data[:size])
			if r.Code != impl.OK || r.Used != int64(used) || !sameRecords(r.Records, records[:told]) {
				t.Fatalf("%v, the first %d of %d bytes: %v, want %d records", records, size, len(data), r, told)
			}
		}
	}
}

// codecGiven are arguments of chapter 3.
type codecGiven struct {
	n        int64
	data     []byte
	contract impl.Contract
	text     string
}

func roomyBytes(data []byte) []byte {
	whole := append(slices.Clone(data), 0, 1, 1, 3, 1, 201, 202, 203)
	return whole[:len(data)]
}

func (a codecGiven) roomy() codecGiven {
	a.data = roomyBytes(a.data)
	a.contract, _ = roomy(a.contract)
	return a
}

// whole copies all that is there, the room behind it too.
func (a codecGiven) whole() any {
	return []any{
		a.n, a.text, len(a.data), slices.Clone(a.data[:cap(a.data)]),
		a.contract.Id, len(a.contract.Legs), slices.Clone(a.contract.Legs[:cap(a.contract.Legs)]),
	}
}

func (a codecGiven) spoil() {
	spoilAll(a.data, 77)
	spoilAll(a.contract.Legs, leg(-77, -77, -77, -77))
}

// codecCalls are all functions of chapter 3; each answer comes with all that
// can be written into it.
var codecCalls = []struct {
	name string
	call func(a codecGiven) (answer any, spoil func())
}{
	{"PackNumber", func(a codecGiven) (any, func()) {
		r := impl.PackNumber(a.n)
		return r, func() { spoilAll(r, 77) }
	}},
	{"UnpackNumber", func(a codecGiven) (any, func()) {
		return impl.UnpackNumber(a.data), func() {}
	}},
	{"PackContract", func(a codecGiven) (any, func()) {
		r := impl.PackContract(a.contract)
		return r, func() { spoilAll(r.Bytes, 77) }
	}},
	{"UnpackContract", func(a codecGiven) (any, func()) {
		r := impl.UnpackContract(a.data)
		return r, func() { spoilAll(r.Contract.Legs, leg(-77, -77, -77, -77)) }
	}},
	{"CheckOf", func(a codecGiven) (any, func()) {
		return impl.CheckOf(a.data), func() {}
	}},
	{"FrameRecord", func(a codecGiven) (any, func()) {
		r := impl.FrameRecord(a.data)
		return r, func() { spoilAll(r.Bytes, 77) }
	}},
	{"UnframeAll", func(a codecGiven) (any, func()) {
		r := impl.UnframeAll(a.data)
		return r, func() {
			for _, record := range r.Records {
				spoilAll(record, 77)
			}
			spoilAll(r.Records, []byte{78})
		}
	}},
	{"PackText", func(a codecGiven) (any, func()) {
		r := impl.PackText(a.text)
		return r, func() { spoilAll(r.Bytes, 77) }
	}},
}

// codecArgs are right and wrong ones for every function of chapter 3.
func codecArgs() []codecGiven {
	d := dice(45)
	args := []codecGiven{
		{},
		{data: []byte{}, contract: impl.Contract{Legs: []impl.Leg{}}},
		{n: farLow, data: wantNumber(farLow), contract: pair(0), text: strings.Repeat("x", 200)},
		{n: farHigh, data: wantNumber(farHigh), contract: pair(farHigh), text: strings.Repeat("x", 201)},
		{n: -1, data: make([]byte, 500), contract: chain(2, 8), text: "\xff"},
		{n: 1, data: make([]byte, 501), contract: chain(2, 9), text: "é"},
		{data: make([]byte, 6000), contract: chain(2, 18)},
		{data: make([]byte, 6001), contract: contract(2, leg(0, 0, 0, 1))},
		{data: bytes.Repeat(wantFrame([]byte{1}), 1200), contract: pair(2)},
		{data: bytes.Repeat(wantFrame([]byte{1}), 1201), contract: pair(2)},
	}
	for range 300 {
		right, odd := d.rightContract(), d.anyContract()
		args = append(args,
			codecGiven{n: d.number(), data: framed(d.records(6)...), contract: right, text: string(d.bytes(d.below(210)))},
			codecGiven{n: d.number(), data: rawContract(right), contract: odd},
			codecGiven{n: d.number(), data: rawContract(odd), contract: odd},
			codecGiven{n: d.below(9), data: d.bytes(d.below(40)), contract: right},
			codecGiven{data: append(framed(d.records(3)...), d.bytes(d.below(9))...)})
	}
	return args
}

// Promise 1: an answer at every argument that hangs on it alone, in new memory.
func TestCodecAnswersAreNewMemory(t *testing.T) {
	for _, a := range codecArgs() {
		for _, f := range codecCalls {
			checkCodecMemory(t, f.name, f.call, a)
		}
	}
}

func checkCodecMemory(t *testing.T, name string, call func(codecGiven) (any, func()), a codecGiven) {
	t.Helper()
	arg := a.roomy()
	before := arg.whole()
	first, spoilFirst := call(arg)
	second, spoilSecond := call(arg)
	if !reflect.DeepEqual(arg.whole(), before) {
		t.Fatalf("%s(%v) changed its argument: %v", name, a, arg)
	}
	if !reflect.DeepEqual(first, second) {
		t.Fatalf("%s(%v) answers %v, then %v", name, a, first, second)
	}
	third, _ := call(a.roomy())
	spoilFirst()
	if !reflect.DeepEqual(arg.whole(), before) {
		t.Fatalf("%s(%v): what is written into the answer changes the argument", name, a)
	}
	arg.spoil()
	if !reflect.DeepEqual(second, third) {
		t.Fatalf("%s(%v): two answers or an answer and an argument share memory: %v, %v", name, a, second, third)
	}
	spoilSecond()
	if again, _ := call(a.roomy()); !reflect.DeepEqual(third, again) {
		t.Fatalf("%s(%v) answers %v, then %v", name, a, third, again)
	}
}

// Promise 1: what stands in the room behind an argument, or that it has none,
// is not to be seen in an answer.
func TestCodecAnswersHangOnTheArgumentAlone(t *testing.T) {
	for _, a := range codecArgs() {
		for _, f := range codecCalls {
			tight := a
			tight.data, tight.contract = slices.Clip(slices.Clone(a.data)), cloneContract(a.contract)
			first, _ := f.call(a.roomy())
			second, _ := f.call(tight)
			if !reflect.DeepEqual(first, second) {
				t.Fatalf("%s(%v) answers %v, and without room behind %v", f.name, a, first, second)
			}
		}
	}
}

// Promise 1: no two records of one answer share memory, the room behind them
// among it, and a record that grows does not grow into another.
func TestRecordsOfAnAnswerShareNothing(t *testing.T) {
	d := dice(46)
	for range 500 {
		records := d.records(10)
		answer := impl.UnframeAll(framed(records...))
		if !sameRecords(answer.Records, records) {
			t.Fatalf("%v: %v", records, answer)
		}
		for at := range answer.Records {
			_ = append(answer.Records[at], 1, 2, 3, 4, 5)
			spoilAll(answer.Records[at], records[at][0]+1)
			answer.Records[at], records[at] = nil, nil
			if !sameRecords(answer.Records, records) {
				t.Fatalf("record %d shares memory: %v, %v", at, answer.Records, records)
			}
		}
	}
}

// Nil and what is empty are one value: they have one answer.
func TestCodecOfNilAndEmpty(t *testing.T) {
	none := codecGiven{}
	empty := codecGiven{data: []byte{}, contract: impl.Contract{Legs: []impl.Leg{}}}
	faulty := codecGiven{contract: impl.Contract{Id: 1}}
	faultyEmpty := codecGiven{data: make([]byte, 0, 9), contract: impl.Contract{Id: 1, Legs: make([]impl.Leg, 0, 9)}}
	for _, f := range codecCalls {
		for _, both := range [][2]codecGiven{{none, empty}, {faulty, faultyEmpty}} {
			first, _ := f.call(both[0])
			second, _ := f.call(both[1])
			if !reflect.DeepEqual(first, second) {
				t.Errorf("%s: nil %v, empty %v", f.name, first, second)
			}
		}
	}
}
