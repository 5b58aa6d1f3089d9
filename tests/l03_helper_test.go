package tests

import (
	"bytes"
	"encoding/binary"
	"math/big"
	"slices"
	"testing"

	"loop.example/g00203/impl"
)

// edgeNumbers lie at the bounds of int64, of its bytes, and of what the
// chapters allow.
var edgeNumbers = []int64{
	farLow, farLow + 1, -impl.MaxAmount - 1, -impl.MaxAmount, -1 << 32, -65537, -65536, -257, -256, -255, -129, -128, -127, -3, -2, -1,
	0, 1, 2, 127, 128, 255, 256, 257, 65535, 65536, 1<<31 - 1, 1 << 31, 1 << 32, maxId, maxId + 1, impl.MaxAmount, impl.MaxAmount + 1, farHigh - 1, farHigh,
}

func (d *dice) number() int64 {
	return d.below(1<<31)<<62 ^ d.below(1<<31)<<31 ^ d.below(1<<31)
}

func (d *dice) bytes(n int64) []byte {
	list := make([]byte, n)
	for i := range list {
		list[i] = byte(d.below(256))
	}
	return list
}

// records throws some that can be framed, short ones more often than long ones.
func (d *dice) records(most int64) [][]byte {
	var list [][]byte
	for range d.below(most + 1) {
		size := 1 + d.below(6)
		if d.below(8) == 0 {
			size = 1 + d.below(500)
		}
		list = append(list, d.bytes(size))
	}
	return list
}

// wantNumber and wantFrame tell the form of chapter 3 once more, by the
// library; wantFrame asks no bound, so that wrong records can be told, too.
func wantNumber(n int64) []byte {
	return binary.BigEndian.AppendUint64(nil, uint64(n))
}

func frameWith(count, check uint16, data []byte) []byte {
	list := binary.BigEndian.AppendUint16(nil, count)
	return append(binary.BigEndian.AppendUint16(list, check), data...)
}

func wantFrame(data []byte) []byte {
	return frameWith(uint16(len(data)), uint16(wantCheck(data)), data)
}

// wantCheck takes the modulus once, at the end, of a number of any size.
func wantCheck(data []byte) int64 {
	h := big.NewInt(1)
	for _, b := range data {
		h.Mul(h, big.NewInt(257))
		h.Add(h, big.NewInt(int64(b)+1))
	}
	return h.Mod(h, big.NewInt(65521)).Int64()
}

func framed(records ...[]byte) []byte {
	var all []byte
	for _, r := range records {
		all = append(all, wantFrame(r)...)
	}
	return all
}

// rawContract packs whatever c is, so that bytes of contracts with a fault
// can be told; of a place outside a byte its lowest byte stands there.
func rawContract(c impl.Contract) []byte {
	list := wantNumber(c.Id)
	for _, l := range c.Legs {
		list = append(list, byte(l.Shard), byte(l.Account), byte(l.Asset))
		list = append(list, wantNumber(l.Amount)...)
	}
	return list
}

func wantPackContract(c impl.Contract) impl.BytesResult {
	if code := wantContractFault(c); code != impl.OK {
		return impl.BytesResult{Code: code}
	}
	return impl.BytesResult{Bytes: rawContract(c)}
}

func wantUnpackContract(data []byte) impl.ContractResult {
	in := bytes.NewReader(data)
	var c impl.Contract
	if binary.Read(in, binary.BigEndian, &c.Id) != nil {
		return impl.ContractResult{Code: impl.ErrText}
	}
	for in.Len() > 0 {
		var at struct {
			Place  [3]uint8
			Amount int64
		}
		if binary.Read(in, binary.BigEndian, &at) != nil {
			return impl.ContractResult{Code: impl.ErrText}
		}
		c.Legs = append(c.Legs, leg(int64(at.Place[0]), int64(at.Place[1]), int64(at.Place[2]), at.Amount))
	}
	if wantContractFault(c) != impl.OK {
		return impl.ContractResult{Code: impl.ErrText}
	}
	return impl.ContractResult{Contract: c}
}

// wantUnframeAll looks for a record whose frame stands ahead by trying all
// that may stand there, the longest one first.
func wantUnframeAll(data []byte) impl.RecordsResult {
	if len(data) > 6000 {
		return impl.RecordsResult{Code: impl.ErrMany}
	}
	var r impl.RecordsResult
	rest := data
next:
	for {
		for size := min(500, len(rest)-4); size >= 1; size-- {
			if int(rest[0])*256+int(rest[1]) != size {
				continue
			}
			if frame := wantFrame(rest[4 : 4+size]); bytes.HasPrefix(rest, frame) {
				r.Records = append(r.Records, slices.Clone(rest[4:4+size]))
				r.Used += int64(len(frame))
				rest = rest[len(frame):]
				continue next
			}
		}
		return r
	}
}

func sameRecords(a, b [][]byte) bool {
	return slices.EqualFunc(a, b, bytes.Equal)
}

func checkBytes(t *testing.T, what string, got impl.BytesResult, want []byte) {
	t.Helper()
	if got.Code != impl.OK || !bytes.Equal(got.Bytes, want) {
		t.Errorf("%s: %v, want %v", what, got, want)
	}
}

func checkBytesCode(t *testing.T, what string, got impl.BytesResult, code int64) {
	t.Helper()
	if got.Code != code || len(got.Bytes) != 0 {
		t.Errorf("%s: %v, want code %d alone", what, got, code)
	}
}

// checkNoContract asks for ErrText and nothing beside it.
func checkNoContract(t *testing.T, what string, data []byte) {
	t.Helper()
	if r := impl.UnpackContract(data); r.Code != impl.ErrText || r.Contract.Id != 0 || len(r.Contract.Legs) != 0 {
		t.Errorf("%s: %v, want ErrText alone", what, r)
	}
}

func checkRecords(t *testing.T, what string, data []byte, want ...[]byte) {
	t.Helper()
	used := int64(len(framed(want...)))
	if r := impl.UnframeAll(data); r.Code != impl.OK || r.Used != used || !sameRecords(r.Records, want) {
		t.Errorf("%s: code %d, used %d of %d, %d records %v; want %d and %d records", what, r.Code, r.Used, len(data), len(r.Records), r.Records, used, len(want))
	}
}
