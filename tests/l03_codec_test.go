package tests

import (
	"bytes"
	"slices"
	"strings"
	"testing"

	"loop.example/g00203/impl"
)

func TestMaxBytes(t *testing.T) {
	if impl.MaxBytes != 6000 {
		t.Errorf("MaxBytes %d", impl.MaxBytes)
	}
}

func TestPackNumber(t *testing.T) {
	cases := []struct {
		n    int64
		want string
	}{
		{0, "\x00\x00\x00\x00\x00\x00\x00\x00"},
		{1, "\x00\x00\x00\x00\x00\x00\x00\x01"},
		{255, "\x00\x00\x00\x00\x00\x00\x00\xff"},
		{256, "\x00\x00\x00\x00\x00\x00\x01\x00"},
		{0x0102030405060708, "\x01\x02\x03\x04\x05\x06\x07\x08"},
		{-1, "\xff\xff\xff\xff\xff\xff\xff\xff"},
		{-2, "\xff\xff\xff\xff\xff\xff\xff\xfe"},
		{-256, "\xff\xff\xff\xff\xff\xff\xff\x00"},
		{farHigh, "\x7f\xff\xff\xff\xff\xff\xff\xff"},
		{farLow, "\x80\x00\x00\x00\x00\x00\x00\x00"},
	}
	for _, c := range cases {
		if got := impl.PackNumber(c.n); string(got) != c.want {
			t.Errorf("PackNumber(%d) = %v, want %v", c.n, got, []byte(c.want))
		}
		if r := impl.UnpackNumber([]byte(c.want)); r.Code != impl.OK || r.Value != c.n {
			t.Errorf("UnpackNumber(%v) = %v, want %d", []byte(c.want), r, c.n)
		}
	}
	for _, n := range edgeNumbers {
		if got := impl.PackNumber(n); !bytes.Equal(got, wantNumber(n)) {
			t.Errorf("PackNumber(%d) = %v", n, got)
		}
	}
}

func TestUnpackNumberOfOtherSizes(t *testing.T) {
	d := dice(31)
	sizes := []int64{0, 1, 2, 3, 4, 5, 6, 7, 9, 10, 16, 17, 6001}
	for _, size := range sizes {
		for _, data := range [][]byte{make([]byte, size), bytes.Repeat([]byte{255}, int(size)), d.bytes(size)} {
			if r := impl.UnpackNumber(data); r.Code != impl.ErrForm || r.Value != 0 {
				t.Errorf("%d bytes: %v, want ErrForm alone", size, r)
			}
		}
	}
	if r := impl.UnpackNumber(nil); r.Code != impl.ErrForm || r.Value != 0 {
		t.Errorf("nil: %v", r)
	}
	nine := append(wantNumber(-3), 1)
	if r := impl.UnpackNumber(nine[:8]); r.Code != impl.OK || r.Value != -3 {
		t.Errorf("eight of nine bytes: %v", r)
	}
}

func TestPackContract(t *testing.T) {
	c := contract(258, leg(2, 5, 1, -3), leg(0, 1, 1, 3))
	want := "\x00\x00\x00\x00\x00\x00\x01\x02" +
		"\x02\x05\x01\xff\xff\xff\xff\xff\xff\xff\xfd" +
		"\x00\x01\x01\x00\x00\x00\x00\x00\x00\x00\x03"
	checkBytes(t, "two legs", impl.PackContract(c), []byte(want))
	const most = impl.MaxAmount
	right := []impl.Contract{
		pair(1), pair(maxId), chain(7, 2), chain(7, impl.MaxLegs),
		contract(7, leg(0, 0, 0, most), leg(2, 5, 0, -most)),
		contract(7, leg(2, 5, 2, 1), leg(2, 5, 1, -1), leg(0, 0, 1, 1), leg(0, 0, 2, -1)),
	}
	for _, c := range right {
		r := impl.PackContract(c)
		checkBytes(t, "a right one", r, rawContract(c))
		if len(r.Bytes) != 8+11*len(c.Legs) {
			t.Errorf("%v has %d bytes", c, len(r.Bytes))
		}
	}
}

func TestPackContractCodes(t *testing.T) {
	right, nought, far, alike := leg(0, 0, 0, 5), leg(1, 0, 0, 0), leg(3, 0, 0, 5), leg(0, 0, 0, -5)
	cases := []struct {
		name string
		c    impl.Contract
		want int64
	}{
		{"zero value", impl.Contract{}, impl.ErrRange},
		{"id 0", pair(0), impl.ErrRange},
		{"id above", pair(maxId + 1), impl.ErrRange},
		{"id far below", pair(farLow), impl.ErrRange},
		{"no legs", contract(4), impl.ErrMany},
		{"1 leg", contract(4, right), impl.ErrMany},
		{"9 legs", chain(4, 9), impl.ErrMany},
		{"shard", contract(4, leg(3, 0, 0, 5), leg(0, 0, 0, -5)), impl.ErrRange},
		{"a shard whose lowest byte is right", contract(4, leg(256, 0, 0, 5), leg(1, 0, 0, -5)), impl.ErrRange},
		{"an account whose lowest byte is right", contract(4, leg(0, 256, 0, 5), leg(1, 0, 0, -5)), impl.ErrRange},
		{"an asset whose lowest byte is right", contract(4, leg(0, 0, -256, 5), leg(1, 0, -256, -5)), impl.ErrRange},
		{"amount", contract(4, leg(0, 0, 0, impl.MaxAmount+1), leg(1, 0, 0, -impl.MaxAmount-1)), impl.ErrRange},
		{"amount 0", contract(4, nought, leg(2, 0, 0, 0)), impl.ErrForm},
		{"taken", contract(4, right, alike), impl.ErrTaken},
		{"sums", contract(4, right, leg(1, 0, 0, 5)), impl.ErrForm},
		{"id ahead of legs", contract(0, far), impl.ErrRange},
		{"count ahead of a leg's range", contract(4, far), impl.ErrMany},
		{"first leg's form ahead of the second's range", contract(4, nought, far), impl.ErrForm},
		{"taken ahead of a later range", contract(4, right, alike, far), impl.ErrTaken},
		{"taken ahead of sums", contract(4, right, right), impl.ErrTaken},
	}
	for _, c := range cases {
		checkBytesCode(t, c.name, impl.PackContract(c.c), c.want)
	}
	d := dice(32)
	for range 20000 {
		c := d.anyContract()
		r, want := impl.PackContract(c), wantPackContract(c)
		if r.Code != want.Code || !bytes.Equal(r.Bytes, want.Bytes) {
			t.Fatalf("PackContract(%v) = %v, want %v", c, r, want)
		}
	}
}

func TestUnpackContractOfNone(t *testing.T) {
	const most = impl.MaxAmount
	whole := rawContract(chain(7, impl.MaxLegs))
	cases := []struct {
		name string
		data []byte
	}{
		{"nil", nil},
		{"empty", []byte{}},
		{"one byte", []byte{1}},
		{"an id alone", wantNumber(7)},
		{"one leg of 0", rawContract(contract(7, leg(0, 0, 0, 0)))},
		{"one leg", rawContract(contract(7, leg(0, 0, 0, 5)))},
		{"nine legs", rawContract(chain(7, 9))},
		{"eighteen legs", rawContract(chain(7, 18))},
		{"very many legs", bytes.Repeat(whole, 100)},
		{"a byte less", whole[:len(whole)-1]},
		{"a byte behind the last leg", append(slices.Clone(whole), 0)},
		{"a byte behind the last of two legs", append(rawContract(pair(7)), 0)},
		{"a leg of noughts behind the last leg", append(rawContract(pair(7)), make([]byte, 11)...)},
		{"a byte ahead", append([]byte{0}, rawContract(pair(7))...)},
		{"two contracts", append(rawContract(pair(7)), rawContract(pair(7))...)},
		{"id 0", rawContract(pair(0))},
		{"id -1", rawContract(pair(-1))},
		{"id 10^9 + 1", rawContract(pair(maxId + 1))},
		{"id of which four bytes are right", rawContract(pair(1<<32 + 7))},
		{"least id", rawContract(pair(farLow))},
		{"greatest id", rawContract(pair(farHigh))},
		{"shard 3", rawContract(contract(7, leg(3, 0, 0, 5), leg(1, 0, 0, -5)))},
		{"shard 255", rawContract(contract(7, leg(1, 0, 0, 5), leg(255, 0, 0, -5)))},
		{"account 6", rawContract(contract(7, leg(0, 6, 0, 5), leg(1, 0, 0, -5)))},
		{"account 255", rawContract(contract(7, leg(0, 0, 0, 5), leg(1, 255, 0, -5)))},
		{"asset 3", rawContract(contract(7, leg(0, 0, 3, 5), leg(1, 0, 3, -5)))},
		{"asset 255", rawContract(contract(7, leg(0, 0, 255, 5), leg(1, 0, 255, -5)))},
		{"amounts of 0", rawContract(contract(7, leg(0, 0, 0, 0), leg(1, 0, 0, 0)))},
		{"amounts out of range", rawContract(contract(7, leg(0, 0, 0, most+1), leg(1, 0, 0, -most-1)))},
		{"amounts far out", rawContract(contract(7, leg(0, 0, 0, farHigh), leg(1, 0, 0, farLow)))},
		{"taken", rawContract(contract(7, leg(0, 0, 0, 5), leg(0, 0, 0, -5)))},
		{"sums", rawContract(contract(7, leg(0, 0, 0, 5), leg(1, 0, 0, -4)))},
		{"a framed one", wantFrame(rawContract(pair(7)))},
		{"noughts", make([]byte, 30)},
		{"all bits", bytes.Repeat([]byte{255}, 30)},
	}
	for _, c := range cases {
		checkNoContract(t, c.name, c.data)
	}
	for _, c := range []impl.Contract{pair(7), chain(7, 3), chain(7, impl.MaxLegs)} {
		data := rawContract(c)
		for size := range data {
			checkNoContract(t, "a beginning", data[:size])
		}
	}
}

// Every byte of a contract is changed to every other value: what is read
// then is just what packs to these bytes.
func TestUnpackContractWithAByteChanged(t *testing.T) {
	c := contract(7, leg(0, 1, 0, -260), leg(1, 2, 0, 260), leg(2, 5, 2, 1), leg(2, 4, 2, -1))
	told := map[int64]int{}
	for at := range rawContract(c) {
		for value := range 256 {
			data := rawContract(c)
			data[at] = byte(value)
			r, want := impl.UnpackContract(data), wantUnpackContract(data)
			told[r.Code]++
			if r.Code != want.Code || !sameContracts(r.Contract, want.Contract) {
				t.Fatalf("UnpackContract(%v) = %v, want %v", data, r, want)
			}
			if again := impl.PackContract(r.Contract); r.Code == impl.OK && !bytes.Equal(again.Bytes, data) {
				t.Fatalf("UnpackContract(%v) = %v, which packs to %v", data, r, again)
			}
		}
	}
	if told[impl.OK] < 100 || told[impl.ErrText] < 1000 {
		t.Errorf("codes %v", told)
	}
}

func TestUnpackContractOfThrownBytes(t *testing.T) {
	d := dice(33)
	told := map[int64]int{}
	for range 20000 {
		data := rawContract(d.anyContract())
		switch d.below(8) {
		case 0:
			data = data[:d.below(int64(len(data)))]
		case 1:
			data = append(data, d.bytes(1+d.below(23))...)
		case 2:
			data = d.bytes(d.below(120))
		}
		r, want := impl.UnpackContract(data), wantUnpackContract(data)
		told[want.Code]++
		if r.Code != want.Code || !sameContracts(r.Contract, want.Contract) {
			t.Fatalf("UnpackContract(%v) = %v, want %v", data, r, want)
		}
	}
	if told[impl.OK] < 1000 || told[impl.ErrText] < 1000 {
		t.Errorf("codes %v", told)
	}
}

func TestCheckOf(t *testing.T) {
	cases := []struct {
		name string
		data []byte
		want int64
	}{
		{"nil", nil, 1},
		{"empty", []byte{}, 1},
		{"the byte 1", []byte{1}, 259},
		{"the byte 0", []byte{0}, 258},
		{"the byte 255", []byte{255}, 513},
		{"above the modulus", []byte{0, 0}, 258*257 + 1 - 65521},
		{"the order counts", []byte{0, 1}, 258*257 + 2 - 65521},
		{"the order counts, turned", []byte{1, 0}, 259*257 + 1 - 65521},
	}
	for _, c := range cases {
		if got := impl.CheckOf(c.data); got != c.want {
			t.Errorf("%s: %d, want %d", c.name, got, c.want)
		}
	}
	d := dice(34)
	for _, size := range []int64{1, 2, 3, 7, 8, 9, 255, 256, 257, 500, 501, 6000, 6001, 20000} {
		for _, data := range [][]byte{make([]byte, size), bytes.Repeat([]byte{255}, int(size)), d.bytes(size)} {
			if got := impl.CheckOf(data); got != wantCheck(data) || got < 0 || got >= 65521 {
				t.Errorf("%d bytes: %d, want %d", size, got, wantCheck(data))
			}
		}
	}
}

func TestFrameRecord(t *testing.T) {
	checkBytes(t, "the document's example", impl.FrameRecord([]byte{1}), []byte{0, 1, 1, 3, 1})
	d := dice(35)
	for _, size := range []int64{1, 2, 3, 255, 256, 257, 499, 500} {
		for _, data := range [][]byte{make([]byte, size), bytes.Repeat([]byte{255}, int(size)), d.bytes(size)} {
			r := impl.FrameRecord(data)
			checkBytes(t, "a record", r, wantFrame(data))
			if len(r.Bytes) != int(size)+4 {
				t.Errorf("%d bytes framed are %d", size, len(r.Bytes))
			}
		}
	}
	for _, size := range []int64{0, 501, 502, 512, 756, 6000, 65536, 65537} {
		checkBytesCode(t, "not 1 to 500 bytes", impl.FrameRecord(make([]byte, size)), impl.ErrMany)
	}
	checkBytesCode(t, "nil", impl.FrameRecord(nil), impl.ErrMany)
}

func TestUnframeAll(t *testing.T) {
	d := dice(36)
	long := d.bytes(500)
	cases := []struct {
		name    string
		records [][]byte
	}{
		{"one byte", [][]byte{{1}}},
		{"500 bytes", [][]byte{long}},
		{"the same twice", [][]byte{{7, 7}, {7, 7}}},
		{"in order", [][]byte{{1}, {2, 2}, long, {0}, {3, 3, 3}}},
		{"a record that is a frame", [][]byte{wantFrame([]byte{1}), {1}}},
		{"a record that is several frames", [][]byte{framed([]byte{1}, []byte{2}), framed(long[:400])}},
		{"records of noughts", [][]byte{make([]byte, 4), make([]byte, 1), make([]byte, 500)}},
		{"records of contracts", [][]byte{rawContract(pair(1)), rawContract(chain(2, 8))}},
	}
	for _, c := range cases {
		checkRecords(t, c.name, framed(c.records...), c.records...)
	}
	checkRecords(t, "nil", nil)
	checkRecords(t, "empty", []byte{})
}

func TestUnframeAllOfMaxBytes(t *testing.T) {
	d := dice(37)
	var long [][]byte
	for range 11 {
		long = append(long, d.bytes(500))
	}
	long = append(long, d.bytes(6000-11*504-4))
	var short [][]byte
	for range 1200 {
		short = append(short, d.bytes(1))
	}
	for _, records := range [][][]byte{long, short} {
		data := framed(records...)
		if len(data) != impl.MaxBytes {
			t.Fatalf("%d bytes", len(data))
		}
		checkRecords(t, "MaxBytes bytes", data, records...)
		checkRecords(t, "one byte less", data[:len(data)-1], records[:len(records)-1]...)
		checkTooMany(t, "one byte more", append(slices.Clone(data), 0))
		checkTooMany(t, "a record more", append(slices.Clone(data), wantFrame([]byte{1})...))
	}
	checkRecords(t, "MaxBytes noughts", make([]byte, impl.MaxBytes))
	checkTooMany(t, "one nought more", make([]byte, impl.MaxBytes+1))
	tail := append(framed(long[0]), make([]byte, impl.MaxBytes-504)...)
	checkRecords(t, "a record and noughts up to MaxBytes", tail, long[0])
	checkTooMany(t, "a record and noughts above MaxBytes", append(tail, 0))
	checkTooMany(t, "very many", make([]byte, 100000))
}

func checkTooMany(t *testing.T, what string, data []byte) {
	t.Helper()
	if r := impl.UnframeAll(data); r.Code != impl.ErrMany || r.Used != 0 || len(r.Records) != 0 {
		t.Errorf("%s: code %d, used %d, %d records; want ErrMany alone", what, r.Code, r.Used, len(r.Records))
	}
}

// wrapping is data whose check and 65521 have room in two bytes, too: they
// are the same by the modulus, and are not the same.
func wrapping() []byte {
	for n := range 1 << 24 {
		data := []byte{byte(n >> 16), byte(n >> 8), byte(n)}
		if wantCheck(data) <= 65535-65521 {
			return data
		}
	}
	return nil
}

func TestUnframeAllOfATailThatIsNoRecord(t *testing.T) {
	d := dice(38)
	data, long, over := d.bytes(20), d.bytes(500), d.bytes(501)
	check := uint16(wantCheck(data))
	wrap := wrapping()
	changed := slices.Clone(data)
	changed[19] ^= 1
	turned := slices.Clone(data)
	slices.Reverse(turned)
	tails := []struct {
		name string
		tail []byte
	}{
		{"nothing", nil},
		{"one nought", []byte{0}},
		{"a count alone", []byte{0, 1}},
		{"a count and half a check", []byte{0, 1, 1}},
		{"a head without data", []byte{0, 1, 1, 3}},
		{"a count of 0", frameWith(0, 1, nil)},
		{"a count of 0 with a check of 0", frameWith(0, 0, nil)},
		{"a count of 0 with data", frameWith(0, check, data)},
		{"a count of 501", wantFrame(over)},
		{"a count of 512, its lowest byte 0", wantFrame(d.bytes(512))},
		{"a count of 600", wantFrame(d.bytes(600))},
		{"the greatest count", frameWith(65535, check, data)},
		{"a count with its highest bit set", frameWith(0x8014, check, data)},
		{"a count one behind the end", frameWith(21, check, data)},
		{"a count one behind the end, checked as if a nought stood there", frameWith(21, uint16(wantCheck(append(slices.Clone(data), 0))), data)},
		{"a count of 500 far behind the end", frameWith(500, uint16(wantCheck(long)), long[:3])},
		{"a count one too small", frameWith(19, check, data)},
		{"a check one too great", frameWith(20, check+1, data)},
		{"a check one too small", frameWith(20, check-1, data)},
		{"a check whose higher byte is another", frameWith(20, check^0x0100, data)},
		{"a check with its bytes turned", frameWith(20, check<<8|check>>8, data)},
		{"a check that is the data's by the modulus alone", frameWith(3, uint16(wantCheck(wrap)+65521), wrap)},
		{"a check of nothing", frameWith(20, 1, data)},
		{"a count of which the lower byte stands first", append([]byte{20, 0, byte(check >> 8), byte(check)}, data...)},
		{"changed data", frameWith(20, check, changed)},
		{"turned data", frameWith(20, check, turned)},
		{"noughts", make([]byte, 50)},
		{"all bits", bytes.Repeat([]byte{255}, 50)},
	}
	if wrap == nil || check < 256 || check>>8 == check&255 {
		t.Fatalf("the data do not tell these tails apart: %v, check %d", wrap, check)
	}
	ahead := [][]byte{{1}, long, {0, 0}}
	for _, c := range tails {
		checkRecords(t, c.name+", alone", c.tail)
		checkRecords(t, c.name+", behind records", append(framed(ahead...), c.tail...), ahead...)
	}
	checkRecords(t, "the data as it is", wantFrame(data), data)
	checkRecords(t, "the wrapping data as it is", wantFrame(wrap), wrap)
}

// Behind a place where no record stands nothing is told, whatever it is.
func TestUnframeAllStopsAtTheFirstPlace(t *testing.T) {
	data := []byte{9, 8, 7}
	check := uint16(wantCheck(data))
	bad := []struct {
		name string
		tail []byte
	}{
		{"one nought", []byte{0}},
		{"a count of 0", frameWith(0, 1, nil)},
		{"a count of 501", wantFrame(bytes.Repeat([]byte{3}, 501))},
		{"a wrong check", frameWith(3, check+1, data)},
		{"changed data", frameWith(3, check, []byte{9, 8, 6})},
		{"the data alone", data},
	}
	first, second, third := []byte{1, 2}, []byte{3}, []byte{4, 4, 4}
	for _, c := range bad {
		behind := append(slices.Clone(c.tail), framed(second, third)...)
		checkRecords(t, c.name+", then records", behind)
		checkRecords(t, c.name+", between records", append(framed(first), behind...), first)
	}
	torn := framed(first, second, third)
	torn = slices.Delete(torn, len(framed(first))+2, len(framed(first))+3)
	checkRecords(t, "a byte that is missing", torn, first)
}

// Every byte of three records is changed to every other value.
func TestUnframeAllWithAByteChanged(t *testing.T) {
	records := [][]byte{{1, 2, 3}, {0}, {255, 254}}
	for at := range framed(records...) {
		for value := range 256 {
			data := framed(records...)
			data[at] = byte(value)
			r, want := impl.UnframeAll(data), wantUnframeAll(data)
			if r.Code != impl.OK || r.Used != want.Used || !sameRecords(r.Records, want.Records) {
				t.Fatalf("UnframeAll(%v) = %v, want %v", data, r, want)
			}
		}
	}
}

func TestUnframeAllOfThrownBytes(t *testing.T) {
	d := dice(39)
	whole, torn := 0, 0
	for range 6000 {
		data := framed(d.records(12)...)
		switch d.below(6) {
		case 0:
			data = data[:d.below(int64(len(data)+1))]
		case 1:
			data = append(data, d.bytes(d.below(30))...)
		case 2:
			if len(data) > 0 {
				data[d.below(int64(len(data)))] = byte(d.below(256))
			}
		case 3:
			at := d.below(int64(len(data) + 1))
			data = slices.Insert(data, int(at), byte(d.below(256)))
		case 4:
			data = d.bytes(d.below(60))
		}
		r, want := impl.UnframeAll(data), wantUnframeAll(data)
		if r.Code != want.Code || r.Used != want.Used || !sameRecords(r.Records, want.Records) {
			t.Fatalf("UnframeAll(%v) = %v, want %v", data, r, want)
		}
		if want.Used == int64(len(data)) {
			whole++
		} else {
			torn++
		}
	}
	if whole < 500 || torn < 500 {
		t.Errorf("%d whole, %d torn", whole, torn)
	}
}

func TestPackText(t *testing.T) {
	cases := []struct {
		name string
		text string
	}{
		{"empty", ""},
		{"one byte", "a"},
		{"a nought", "\x00"},
		{"a line feed and a blank", "a\n b"},
		{"bytes that are no letters", "\xff\xfe\x80"},
		{"127 bytes", strings.Repeat("x", 127)},
		{"128 bytes", strings.Repeat("x", 128)},
		{"199 bytes", strings.Repeat("x", 199)},
		{"200 bytes", strings.Repeat("x", 200)},
		{"100 letters of two bytes", strings.Repeat("é", 100)},
	}
	for _, c := range cases {
		want := append([]byte{byte(len(c.text))}, c.text...)
		checkBytes(t, c.name, impl.PackText(c.text), want)
	}
	for _, text := range []string{strings.Repeat("x", 201), strings.Repeat("é", 101), strings.Repeat("x", 255), strings.Repeat("x", 256), strings.Repeat("x", 456), strings.Repeat("\x00", 7000)} {
		checkBytesCode(t, "more than 200 bytes", impl.PackText(text), impl.ErrMany)
	}
	for size := range 201 {
		text := strings.Repeat("q", size)
		checkBytes(t, "every size", impl.PackText(text), append([]byte{byte(size)}, text...))
	}
}
