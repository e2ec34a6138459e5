package octet_test

import (
	"bytes"
	"encoding/hex"
	"math"
	"math/big"
	"math/rand"
	"testing"

	"postmark/api"
	"postmark/octet"
)

// some are bytes by chance, from a seed that stands in the test.
func some(r *rand.Rand, most int) []byte {
	b := make([]byte, r.Intn(most+1))
	for i := range b {
		if r.Intn(3) > 0 {
			b[i] = byte(r.Intn(256))
		}
	}
	return b
}

func TestHex(t *testing.T) {
	if s := octet.Hex([]byte{0, 171, 9}); s != "00ab09" {
		t.Error(s)
	}
	if s := octet.Hex(nil); s != "" {
		t.Error(s)
	}
	for i := range 256 {
		b := []byte{byte(i), byte(255 - i)}
		s := octet.Hex(b)
		if s != hex.EncodeToString(b) {
			t.Error(i, s)
		}
		if l, e := octet.Unhex(s); e != api.OK || !bytes.Equal(l, b) {
			t.Error(i, l, e)
		}
	}
}

func TestUnhex(t *testing.T) {
	for _, x := range []struct {
		s    string
		want []byte
		e    api.Errno
	}{
		{"00ab09", []byte{0, 171, 9}, api.OK},
		{"", nil, api.OK},
		{"00AB", nil, api.ErrOctet},
		{"aB", nil, api.ErrOctet},
		{"0", nil, api.ErrOctet},
		{"000", nil, api.ErrOctet},
		{"0g", nil, api.ErrOctet},
		{"g0", nil, api.ErrOctet},
		{"/0", nil, api.ErrOctet},
		{"0:", nil, api.ErrOctet},
		{"0`", nil, api.ErrOctet},
		{" 00", nil, api.ErrOctet},
		{"0x00", nil, api.ErrOctet},
		{"00 1", nil, api.ErrOctet},
		{"\xff\xff", nil, api.ErrOctet},
		{"é", nil, api.ErrOctet},
		{"0000é", nil, api.ErrOctet},
		{"00é0", nil, api.ErrOctet},
		{"\u0660\u0661", nil, api.ErrOctet},
	} {
		b, e := octet.Unhex(x.s)
		if e != x.e || !bytes.Equal(b, x.want) {
			t.Errorf("%q: %v %v", x.s, b, e)
		}
	}
	for i := range 256 {
		s := string([]byte{byte(i), '0'})
		_, e := octet.Unhex(s)
		isDigit := i >= '0' && i <= '9' || i >= 'a' && i <= 'f'
		if (e == api.OK) != isDigit {
			t.Errorf("%q: %v", s, e)
		}
	}
}

func TestBig(t *testing.T) {
	for _, x := range []struct {
		n    uint64
		size int
		want []byte
		e    api.Errno
	}{
		{258, 3, []byte{0, 1, 2}, api.OK},
		{258, 2, []byte{1, 2}, api.OK},
		{258, 1, nil, api.ErrOctet},
		{255, 1, []byte{255}, api.OK},
		{256, 1, nil, api.ErrOctet},
		{0, 0, nil, api.OK},
		{1, 0, nil, api.ErrOctet},
		{1, -1, nil, api.ErrArg},
		{1, math.MinInt, nil, api.ErrArg},
		{1, api.MaxOctets + 1, nil, api.ErrArg},
		{math.MaxUint64, 8, bytes.Repeat([]byte{255}, 8), api.OK},
		{math.MaxUint64, 7, nil, api.ErrOctet},
		{math.MaxUint64, 9, append([]byte{0}, bytes.Repeat([]byte{255}, 8)...), api.OK},
		{5, api.MaxOctets, append(make([]byte, api.MaxOctets-1), 5), api.OK},
	} {
		b, e := octet.Big(x.n, x.size)
		if e != x.e || !bytes.Equal(b, x.want) {
			t.Error(x.n, x.size, len(b), e)
		}
	}
}

func TestWhole(t *testing.T) {
	for _, x := range []struct {
		b    []byte
		want uint64
		e    api.Errno
	}{
		{[]byte{0, 1, 2}, 258, api.OK},
		{nil, 0, api.OK},
		{make([]byte, 100), 0, api.OK},
		{bytes.Repeat([]byte{255}, 8), math.MaxUint64, api.OK},
		{append(make([]byte, 9), 255, 254), 65534, api.OK},
		{[]byte{1, 0, 0, 0, 0, 0, 0, 0, 0}, 0, api.ErrOctet},
		{bytes.Repeat([]byte{255}, 9), 0, api.ErrOctet},
	} {
		if n, e := octet.Whole(x.b); n != x.want || e != x.e {
			t.Error(x.b, n, e)
		}
	}
}

func TestTrimAndPad(t *testing.T) {
	for _, x := range []struct {
		b    []byte
		want []byte
	}{
		{nil, nil}, {[]byte{0}, nil}, {[]byte{0, 0, 0}, nil}, {[]byte{0, 7, 0}, []byte{7, 0}}, {[]byte{7, 0, 0}, []byte{7, 0, 0}},
	} {
		if b := octet.Trim(x.b); !bytes.Equal(b, x.want) {
			t.Error(x.b, b)
		}
	}
	for _, x := range []struct {
		b    []byte
		size int
		want []byte
		e    api.Errno
	}{
		{[]byte{1, 2}, 3, []byte{0, 1, 2}, api.OK},
		{[]byte{1, 2}, 2, []byte{1, 2}, api.OK},
		{[]byte{1, 2}, 1, nil, api.ErrOctet},
		{[]byte{0, 0, 0, 1, 2}, 3, []byte{0, 1, 2}, api.OK},
		{[]byte{0, 0}, 0, nil, api.OK},
		{nil, 2, []byte{0, 0}, api.OK},
		{[]byte{1}, 0, nil, api.ErrOctet},
		{[]byte{1}, -1, nil, api.ErrArg},
		{[]byte{1, 2}, api.MaxOctets + 1, nil, api.ErrArg},
		{[]byte{3}, api.MaxOctets, append(make([]byte, api.MaxOctets-1), 3), api.OK},
	} {
		b, e := octet.Pad(x.b, x.size)
		if e != x.e || !bytes.Equal(b, x.want) {
			t.Error(x.b, x.size, len(b), e)
		}
	}
}

func TestXor(t *testing.T) {
	if b, e := octet.Xor([]byte{5, 255}, []byte{3, 255}); e != api.OK || !bytes.Equal(b, []byte{6, 0}) {
		t.Error(b, e)
	}
	if b, e := octet.Xor(nil, []byte{}); e != api.OK || len(b) != 0 {
		t.Error(b, e)
	}
	for _, x := range [][2][]byte{{{1}, nil}, {nil, {1}}, {{1, 2}, {1}}, {{1}, {1, 0}}} {
		if b, e := octet.Xor(x[0], x[1]); e != api.ErrArg || b != nil {
			t.Error(x, b, e)
		}
	}
}

func TestCmp(t *testing.T) {
	for _, x := range []struct {
		a, b []byte
		want int
	}{
		{[]byte{1, 2}, []byte{1, 2, 0}, -1}, {nil, nil, 0}, {nil, []byte{}, 0}, {nil, []byte{0}, -1}, {[]byte{1, 2}, []byte{1, 2}, 0},
		{[]byte{2}, []byte{1, 9, 9}, 1}, {[]byte{1, 9, 9}, []byte{2}, -1}, {[]byte{127}, []byte{128}, -1}, {[]byte{255, 0}, []byte{255, 1}, -1}, {[]byte{3, 1, 0}, []byte{3, 0, 9}, 1},
	} {
		if n := octet.Cmp(x.a, x.b); n != x.want {
			t.Error(x, n)
		}
		if n := octet.Cmp(x.b, x.a); n != -x.want {
			t.Error(x, n)
		}
	}
}

func TestJoinAndCut(t *testing.T) {
	if b := octet.Join(); len(b) != 0 {
		t.Error(b)
	}
	if b := octet.Join([]byte{1}, nil, []byte{2, 3}, []byte{}); !bytes.Equal(b, []byte{1, 2, 3}) {
		t.Error(b)
	}
	if l, e := octet.Cut([]byte{1, 2, 3}, 1, 0, 2); e != api.OK || len(l) != 3 || !bytes.Equal(l[0], []byte{1}) || len(l[1]) != 0 || !bytes.Equal(l[2], []byte{2, 3}) {
		t.Error(l, e)
	}
	if l, e := octet.Cut(nil); e != api.OK || len(l) != 0 {
		t.Error(l, e)
	}
	if l, e := octet.Cut(nil, 0, 0); e != api.OK || len(l) != 2 {
		t.Error(l, e)
	}
	for _, sizes := range [][]int{{4, -1}, {-1, 4}, {}, {1}, {1, 1}, {4}, {1, 3}, {3, 1}, {math.MaxInt, math.MaxInt, 5}, {3, math.MaxInt, math.MinInt}} {
		if l, e := octet.Cut([]byte{1, 2, 3}, sizes...); e != api.ErrArg || l != nil {
			t.Error(sizes, l, e)
		}
	}
}

// TestWhatFollows holds the calls against one another, and numbers against math/big.
func TestWhatFollows(t *testing.T) {
	r := rand.New(rand.NewSource(1))
	for range 3000 {
		b := some(r, 12)
		s := octet.Hex(b)
		if l, e := octet.Unhex(s); e != api.OK || !bytes.Equal(l, b) || octet.Hex(l) != s {
			t.Fatal(b, l, e)
		}
		number := new(big.Int).SetBytes(b)
		n, e := octet.Whole(b)
		if (e == api.OK) != number.IsUint64() || e == api.OK && n != number.Uint64() {
			t.Fatal(b, n, e)
		}
		size := r.Intn(14)
		padded, pe := octet.Pad(b, size)
		if (pe == api.OK) != (len(number.Bytes()) <= size) || pe == api.OK && (len(padded) != size || new(big.Int).SetBytes(padded).Cmp(number) != 0) {
			t.Fatal(b, size, padded, pe)
		}
		if e == api.OK {
			if l, be := octet.Big(n, size); be != pe || !bytes.Equal(l, padded) {
				t.Fatal(n, size, l, be)
			}
		}
		c := make([]byte, len(b))
		r.Read(c)
		once, _ := octet.Xor(b, c)
		if twice, e := octet.Xor(once, c); e != api.OK || !bytes.Equal(twice, b) {
			t.Fatal(b, c, twice, e)
		}
		first := r.Intn(len(b) + 1)
		second := r.Intn(len(b) - first + 1)
		l, e := octet.Cut(b, first, second, len(b)-first-second)
		if e != api.OK || !bytes.Equal(octet.Join(l...), b) || len(l[0]) != first || len(l[1]) != second {
			t.Fatal(b, l, e)
		}
	}
}

// TestMemory writes over all that is answered, and looks whether what was handed in is still as it was, and the other way round.
func TestMemory(t *testing.T) {
	given := []byte{9, 8, 7, 6}
	kept := bytes.Clone(given)
	spoil := func(b []byte) {
		for i := range b[:cap(b)] {
			b[:cap(b)][i] ^= 255
		}
	}
	padded, _ := octet.Pad(given, 4)
	laid, _ := octet.Xor(given, make([]byte, 4))
	pieces, _ := octet.Cut(given, 2, 2)
	for i, b := range [][]byte{octet.Trim(given), padded, laid, octet.Join(given), pieces[0]} {
		spoil(b)
		if !bytes.Equal(given, kept) {
			t.Fatal(i)
		}
	}
	if !bytes.Equal(pieces[1], kept[2:]) {
		t.Error("pieces share memory", pieces)
	}
	joined := octet.Join(given)
	spoil(given)
	if !bytes.Equal(joined, kept) {
		t.Error(joined)
	}
}
