package nat_test

import (
	"bytes"
	"math"
	"math/big"
	"math/rand"
	"slices"
	"testing"

	"postmark/api"
	"postmark/nat"
)

// model is a natural as math/big has it.
func model(x api.Nat) *big.Int {
	n := new(big.Int)
	for i := len(x) - 1; i >= 0; i-- {
		n.Lsh(n, 32).Or(n, big.NewInt(int64(x[i])))
	}
	return n
}

// same says whether an answer is just what the model has: trimmed, or ErrNat where that is below 0 or too long.
func same(x api.Nat, e api.Errno, want *big.Int) bool {
	if want.Sign() < 0 || want.BitLen() > 32*api.MaxLimbs {
		return e == api.ErrNat && x == nil
	}
	return e == api.OK && trimmed(x) && model(x).Cmp(want) == 0
}

func trimmed(x api.Nat) bool { return len(x) == 0 || x[len(x)-1] != 0 }

// some is a natural of at most so many limbs, with limbs that carry far, and maybe noughts at its end.
func some(r *rand.Rand, most int) api.Nat {
	x := make(api.Nat, r.Intn(most+1))
	for i := range x {
		switch r.Intn(4) {
		case 0:
			x[i] = math.MaxUint32
		case 1:
			x[i] = 0
		default:
			x[i] = r.Uint32()
		}
	}
	return append(x, make(api.Nat, r.Intn(2)*r.Intn(3))...)
}

// full is a natural of so many limbs, each of them all ones.
func full(limbs int) api.Nat { return slices.Repeat(api.Nat{math.MaxUint32}, limbs) }

func TestOf(t *testing.T) {
	for _, x := range []struct {
		n    uint64
		want api.Nat
	}{{0, nil}, {5, api.Nat{5}}, {1<<32 + 5, api.Nat{5, 1}}, {1 << 32, api.Nat{0, 1}}, {math.MaxUint64, full(2)}} {
		if l := nat.Of(x.n); !slices.Equal(l, x.want) {
			t.Error(x.n, l)
		}
	}
}

func TestTrim(t *testing.T) {
	for _, x := range []struct {
		x, want api.Nat
		e       api.Errno
	}{
		{nil, nil, api.OK}, {api.Nat{0, 0}, nil, api.OK}, {api.Nat{0, 3, 0}, api.Nat{0, 3}, api.OK},
		{full(256), full(256), api.OK}, {append(full(256), 0, 0), full(256), api.OK}, {full(257), nil, api.ErrNat}, {append(make(api.Nat, 256), 1), nil, api.ErrNat},
	} {
		if l, e := nat.Trim(x.x); e != x.e || !slices.Equal(l, x.want) {
			t.Error(len(x.x), l, e)
		}
	}
}

func TestReadAndBytes(t *testing.T) {
	if b := nat.Bytes(nat.Of(1<<32 + 5)); !bytes.Equal(b, []byte{1, 0, 0, 0, 5}) {
		t.Error(b)
	}
	if l, e := nat.Read([]byte{0, 0, 1, 0}); e != api.OK || !slices.Equal(l, api.Nat{256}) {
		t.Error(l, e)
	}
	if l, e := nat.Read(nil); e != api.OK || len(l) != 0 {
		t.Error(l, e)
	}
	if b := nat.Bytes(api.Nat{0, 0}); len(b) != 0 {
		t.Error(b)
	}
	most := bytes.Repeat([]byte{255}, 1024)
	if l, e := nat.Read(append(make([]byte, 5), most...)); e != api.OK || !slices.Equal(l, full(256)) {
		t.Error(len(l), e)
	}
	if l, e := nat.Read(append([]byte{1}, make([]byte, 1024)...)); e != api.ErrNat || l != nil {
		t.Error(len(l), e)
	}
	if b := nat.Bytes(full(300)); !bytes.Equal(b, bytes.Repeat([]byte{255}, 1200)) {
		t.Error(len(b))
	}
	r := rand.New(rand.NewSource(1))
	for range 2000 {
		b := make([]byte, r.Intn(20))
		r.Read(b)
		for i := range min(len(b), r.Intn(4)) {
			b[i] = 0
		}
		want := new(big.Int).SetBytes(b)
		x, e := nat.Read(b)
		if !same(x, e, want) || !bytes.Equal(nat.Bytes(x), want.Bytes()) {
			t.Fatal(b, x, e, nat.Bytes(x))
		}
		if b := nat.Bytes(append(slices.Clone(x), 0)); !bytes.Equal(b, want.Bytes()) {
			t.Fatal(x, b)
		}
	}
}

func TestUint(t *testing.T) {
	for _, x := range []struct {
		x    api.Nat
		want uint64
		ok   bool
	}{{nil, 0, true}, {api.Nat{7}, 7, true}, {api.Nat{7, 1, 0, 0}, 1<<32 + 7, true}, {full(2), math.MaxUint64, true}, {api.Nat{0, 0, 1}, 0, false}, {full(300), 0, false}} {
		if n, ok := nat.Uint(x.x); n != x.want || ok != x.ok {
			t.Error(x, n, ok)
		}
	}
}

func TestBits(t *testing.T) {
	eight := nat.Of(8)
	if nat.Bits(eight) != 4 || !nat.Bit(eight, 3) || nat.Bit(eight, 2) || nat.Bit(eight, -1) || nat.Bit(eight, math.MinInt) || nat.Bit(eight, 4) || nat.Bit(eight, 32) || nat.Bit(eight, math.MaxInt) {
		t.Error("bits of 8")
	}
	if nat.Bits(nil) != 0 || nat.Bits(api.Nat{0, 0}) != 0 || nat.Bits(full(300)) != 9600 || nat.Bits(api.Nat{0, 1, 0}) != 33 || !nat.Bit(full(300), 9599) || nat.Bit(nil, 0) {
		t.Error("bits of others")
	}
}

// TestAgainstModel holds sums, differences, products, shifts, bits and order against math/big.
func TestAgainstModel(t *testing.T) {
	r := rand.New(rand.NewSource(2))
	for range 4000 {
		x, y := some(r, 6), some(r, 6)
		if r.Intn(8) == 0 {
			y = append(slices.Clone(x), 0)
		}
		a, b := model(x), model(y)
		if n := nat.Cmp(x, y); n != a.Cmp(b) {
			t.Fatal("cmp", x, y, n)
		}
		sum, e := nat.Add(x, y)
		if !same(sum, e, new(big.Int).Add(a, b)) {
			t.Fatal("add", x, y, sum, e)
		}
		difference, e := nat.Sub(x, y)
		if !same(difference, e, new(big.Int).Sub(a, b)) {
			t.Fatal("sub", x, y, difference, e)
		}
		product, e := nat.Mul(x, y)
		if !same(product, e, new(big.Int).Mul(a, b)) {
			t.Fatal("mul", x, y, product, e)
		}
		n := r.Intn(200)
		left, e := nat.Shl(x, n)
		if !same(left, e, new(big.Int).Lsh(a, uint(n))) {
			t.Fatal("shl", x, n, left, e)
		}
		right, e := nat.Shr(x, n)
		if !same(right, e, new(big.Int).Rsh(a, uint(n))) {
			t.Fatal("shr", x, n, right, e)
		}
		if nat.Bits(x) != a.BitLen() || nat.Bit(x, n) != (a.Bit(n) == 1) {
			t.Fatal("bits", x, n)
		}
	}
}

// TestTheGreatest goes to where a natural is as long as it may be, and beyond.
func TestTheGreatest(t *testing.T) {
	top := full(256)
	long := append(slices.Clone(top), 0, 0, 0)
	beyond := append(make(api.Nat, 256), 1)
	for i, x := range []struct {
		x, y api.Nat
		do   func(x, y api.Nat) (api.Nat, api.Errno)
		e    api.Errno
	}{
		{top, nil, nat.Add, api.OK}, {long, nil, nat.Add, api.OK}, {top, nat.Of(1), nat.Add, api.ErrNat}, {top, top, nat.Add, api.ErrNat}, {beyond, nil, nat.Add, api.ErrNat}, {nil, beyond, nat.Add, api.ErrNat},
		{top, top, nat.Sub, api.OK}, {long, top, nat.Sub, api.OK}, {beyond, nat.Of(1), nat.Sub, api.ErrNat}, {beyond, beyond, nat.Sub, api.ErrNat}, {nat.Of(1), beyond, nat.Sub, api.ErrNat}, {nat.Of(1), nat.Of(2), nat.Sub, api.ErrNat}, {nil, nat.Of(1), nat.Sub, api.ErrNat},
		{full(128), full(128), nat.Mul, api.OK}, {top, nat.Of(1), nat.Mul, api.OK}, {nat.Of(1), long, nat.Mul, api.OK}, {top, nat.Of(2), nat.Mul, api.ErrNat}, {top, top, nat.Mul, api.ErrNat}, {beyond, nil, nat.Mul, api.ErrNat}, {nil, beyond, nat.Mul, api.ErrNat}, {top, nil, nat.Mul, api.OK},
	} {
		if l, e := x.do(x.x, x.y); e != x.e || e != api.OK && l != nil || !trimmed(l) {
			t.Error(i, len(l), e)
		}
	}
	for i, x := range []struct {
		x    api.Nat
		n    int
		do   func(x api.Nat, n int) (api.Nat, api.Errno)
		want api.Nat
		e    api.Errno
	}{
		{nat.Of(3), 33, nat.Shl, api.Nat{0, 6}, api.OK}, {api.Nat{0, 6}, 34, nat.Shr, api.Nat{1}, api.OK},
		{nat.Of(1), 8192, nat.Shl, nil, api.ErrNat}, {nat.Of(1), 8191, nat.Shl, append(make(api.Nat, 255), 1<<31), api.OK}, {nat.Of(3), 8191, nat.Shl, nil, api.ErrNat}, {nat.Of(3), math.MaxInt, nat.Shl, nil, api.ErrNat},
		{nil, math.MaxInt, nat.Shl, nil, api.OK}, {api.Nat{0}, 8192, nat.Shl, nil, api.OK}, {nat.Of(1), -1, nat.Shl, nil, api.ErrArg}, {beyond, -1, nat.Shl, nil, api.ErrArg}, {beyond, 0, nat.Shl, nil, api.ErrNat}, {top, 0, nat.Shl, top, api.OK}, {top, 1, nat.Shl, nil, api.ErrNat}, {long, 0, nat.Shl, top, api.OK}, {append(nat.Of(1), make(api.Nat, 300)...), 3, nat.Shl, nat.Of(8), api.OK},
		{nat.Of(1), -1, nat.Shr, nil, api.ErrArg}, {beyond, math.MinInt, nat.Shr, nil, api.ErrArg}, {beyond, 1, nat.Shr, nil, api.ErrNat}, {beyond, 9000, nat.Shr, nil, api.ErrNat}, {top, math.MaxInt, nat.Shr, nil, api.OK}, {top, 8191, nat.Shr, api.Nat{1}, api.OK}, {top, 8192, nat.Shr, nil, api.OK}, {long, 0, nat.Shr, top, api.OK},
	} {
		if l, e := x.do(x.x, x.n); e != x.e || !slices.Equal(l, x.want) {
			t.Error(i, len(l), e)
		}
	}
	if nat.Cmp(beyond, top) != 1 || nat.Cmp(long, top) != 0 || nat.Cmp(top, beyond) != -1 {
		t.Error("order of any length")
	}
}

// TestWhatFollows are the laws of sums, products and shifts.
func TestWhatFollows(t *testing.T) {
	r := rand.New(rand.NewSource(3))
	must := func(x api.Nat, e api.Errno) api.Nat {
		if e != api.OK || !trimmed(x) {
			t.Fatal(x, e)
		}
		return x
	}
	for range 1000 {
		x, y, z := some(r, 5), some(r, 5), some(r, 5)
		n := r.Intn(100)
		power := must(nat.Shl(nat.Of(1), n))
		for i, two := range [][2]api.Nat{
			{must(nat.Add(x, y)), must(nat.Add(y, x))},
			{must(nat.Mul(x, y)), must(nat.Mul(y, x))},
			{must(nat.Add(must(nat.Add(x, y)), z)), must(nat.Add(x, must(nat.Add(y, z))))},
			{must(nat.Mul(must(nat.Mul(x, y)), z)), must(nat.Mul(x, must(nat.Mul(y, z))))},
			{must(nat.Mul(x, must(nat.Add(y, z)))), must(nat.Add(must(nat.Mul(x, y)), must(nat.Mul(x, z))))},
			{must(nat.Sub(must(nat.Add(x, y)), y)), must(nat.Trim(x))},
			{must(nat.Shl(x, n)), must(nat.Mul(x, power))},
			{must(nat.Shr(must(nat.Shl(x, n)), n)), must(nat.Trim(x))},
			{must(nat.Read(nat.Bytes(x))), must(nat.Trim(x))},
		} {
			if !slices.Equal(two[0], two[1]) {
				t.Fatal(i, x, y, z, n, two)
			}
		}
	}
}

// TestMemory writes over all that is answered, and looks whether what was handed in is still as it was.
func TestMemory(t *testing.T) {
	x, y := api.Nat{9, 8, 7}, api.Nat{}
	kept := slices.Clone(x)
	only := func(l api.Nat, e api.Errno) api.Nat { return l }
	for i, l := range []api.Nat{only(nat.Trim(x)), only(nat.Add(x, y)), only(nat.Add(y, x)), only(nat.Sub(x, y)), only(nat.Mul(x, nat.Of(1))), only(nat.Shl(x, 0)), only(nat.Shr(x, 0))} {
		if !slices.Equal(l, kept) {
			t.Error(i, l)
		}
		for j := range l[:cap(l)] {
			l[:cap(l)][j] ^= 1
		}
		if !slices.Equal(x, kept) {
			t.Fatal(i, x)
		}
	}
	b := []byte{0, 1, 2, 3, 4, 5}
	nat.Read(b)
	if !bytes.Equal(b, []byte{0, 1, 2, 3, 4, 5}) {
		t.Error(b)
	}
}
