package ratio_test

import (
	"math"
	"math/big"
	"math/rand"
	"slices"
	"testing"

	"postmark/api"
	"postmark/nat"
	"postmark/ratio"
)

func model(x api.Nat) *big.Int { return new(big.Int).SetBytes(nat.Bytes(x)) }

// is says whether an answer is a number, trimmed.
func is(x api.Nat, want *big.Int) bool {
	return model(x).Cmp(want) == 0 && (len(x) == 0 || x[len(x)-1] != 0)
}

// some is a natural of at most so many limbs: many of them are such as make a guessed digit too great.
func some(r *rand.Rand, most int) api.Nat {
	x := make(api.Nat, r.Intn(most+1))
	for i := range x {
		switch r.Intn(6) {
		case 0:
			x[i] = math.MaxUint32
		case 1:
			x[i] = 0
		case 2:
			x[i] = 1 << 31
		case 3:
			x[i] = 1<<31 - 1
		default:
			x[i] = r.Uint32() >> r.Intn(32)
		}
	}
	return append(x, make(api.Nat, r.Intn(2)*r.Intn(3))...)
}

func full(limbs int) api.Nat { return slices.Repeat(api.Nat{math.MaxUint32}, limbs) }

var beyond = append(make(api.Nat, 256), 1)

func TestDivExamples(t *testing.T) {
	two64, _ := nat.Shl(nat.Of(1), 64)
	for _, x := range []struct {
		x, y, q, r api.Nat
		e          api.Errno
	}{
		{nat.Of(17), nat.Of(5), nat.Of(3), nat.Of(2), api.OK},
		{two64, nat.Of(1<<32 + 1), nat.Of(1<<32 - 1), nat.Of(1), api.OK},
		{nat.Of(1), nil, nil, nil, api.ErrRatio}, {nil, nil, nil, nil, api.ErrRatio}, {nat.Of(1), api.Nat{0, 0}, nil, nil, api.ErrRatio},
		{nil, nat.Of(3), nil, nil, api.OK}, {nat.Of(2), nat.Of(3), nil, nat.Of(2), api.OK}, {nat.Of(3), nat.Of(3), nat.Of(1), nil, api.OK}, {api.Nat{7, 0}, api.Nat{2, 0, 0}, nat.Of(3), nat.Of(1), api.OK},
		{beyond, nil, nil, nil, api.ErrNat}, {nat.Of(1), beyond, nil, nil, api.ErrNat}, {beyond, nat.Of(1), nil, nil, api.ErrNat},
		{full(256), nat.Of(1), full(256), nil, api.OK}, {full(256), full(256), nat.Of(1), nil, api.OK}, {append(full(256), 0), full(256), nat.Of(1), nil, api.OK},
	} {
		q, r, e := ratio.Div(x.x, x.y)
		if e != x.e || !slices.Equal(q, x.q) || !slices.Equal(r, x.r) {
			t.Error(len(x.x), x.y, q, r, e)
		}
		rest, e := ratio.Mod(x.x, x.y)
		if e != x.e || !slices.Equal(rest, x.r) {
			t.Error(len(x.x), x.y, rest, e)
		}
	}
}

func TestDivAgainstModel(t *testing.T) {
	r := rand.New(rand.NewSource(1))
	for range 20000 {
		x, y := some(r, 8), some(r, 5)
		if nat.Bits(y) == 0 {
			continue
		}
		q, rest, e := ratio.Div(x, y)
		wantQ, wantR := new(big.Int).QuoRem(model(x), model(y), new(big.Int))
		if e != api.OK || !is(q, wantQ) || !is(rest, wantR) {
			t.Fatal(x, y, q, rest, e)
		}
		if m, e := ratio.Mod(x, y); e != api.OK || !is(m, wantR) {
			t.Fatal(x, y, m, e)
		}
		product, _ := nat.Mul(q, y)
		if all, _ := nat.Add(product, rest); nat.Cmp(all, x) != 0 || nat.Cmp(rest, y) >= 0 {
			t.Fatal(x, y, q, rest)
		}
	}
	for range 50 {
		x, y := some(r, 256), some(r, 200)
		if nat.Bits(y) == 0 {
			continue
		}
		q, rest, e := ratio.Div(x, y)
		wantQ, wantR := new(big.Int).QuoRem(model(x), model(y), new(big.Int))
		if (e != api.OK) != (nat.Bits(x) > 8192) || e == api.OK && (!is(q, wantQ) || !is(rest, wantR)) {
			t.Fatal(len(x), len(y), e)
		}
	}
}

func TestGcd(t *testing.T) {
	for _, x := range []struct {
		x, y, want api.Nat
		e          api.Errno
	}{
		{nat.Of(12), nat.Of(18), nat.Of(6), api.OK}, {nil, nat.Of(7), nat.Of(7), api.OK}, {nat.Of(7), nil, nat.Of(7), api.OK}, {nil, nil, nil, api.OK}, {api.Nat{7, 0}, api.Nat{0}, nat.Of(7), api.OK}, {nat.Of(1), full(256), nat.Of(1), api.OK}, {full(256), full(128), full(128), api.OK},
		{beyond, nil, nil, api.ErrNat}, {nil, beyond, nil, api.ErrNat}, {beyond, nat.Of(1), nil, api.ErrNat},
	} {
		if g, e := ratio.Gcd(x.x, x.y); e != x.e || !slices.Equal(g, x.want) {
			t.Error(len(x.x), len(x.y), g, e)
		}
	}
	r := rand.New(rand.NewSource(2))
	for range 2000 {
		both := some(r, 2)
		x, _ := nat.Mul(some(r, 4), both)
		y, _ := nat.Mul(some(r, 4), both)
		g, e := ratio.Gcd(x, y)
		if e != api.OK || !is(g, new(big.Int).GCD(nil, nil, model(x), model(y))) {
			t.Fatal(x, y, g, e)
		}
		if nat.Bits(both) > 0 && nat.Bits(g) > 0 {
			if rest, _ := ratio.Mod(g, both); nat.Bits(rest) > 0 {
				t.Fatal("a common divisor does not divide", x, y, g, both)
			}
		}
	}
}

func TestMulMod(t *testing.T) {
	for i, x := range []struct {
		x, y, m, want api.Nat
		e             api.Errno
	}{
		{nat.Of(7), nat.Of(8), nat.Of(10), nat.Of(6), api.OK}, {nat.Of(7), nat.Of(8), nat.Of(1), nil, api.OK}, {nil, nat.Of(8), nat.Of(3), nil, api.OK}, {nat.Of(7), nat.Of(8), append(nat.Of(10), make(api.Nat, 200)...), nat.Of(6), api.OK},
		{nat.Of(7), nat.Of(8), nil, nil, api.ErrRatio}, {nat.Of(7), nat.Of(8), full(129), nil, api.ErrNat}, {nat.Of(7), nat.Of(8), beyond, nil, api.ErrNat},
		{beyond, nat.Of(8), nil, nil, api.ErrNat}, {nat.Of(7), beyond, nil, nil, api.ErrNat}, {beyond, nat.Of(8), nat.Of(3), nil, api.ErrNat}, {nat.Of(7), beyond, nat.Of(3), nil, api.ErrNat},
		{full(256), full(256), full(128), nil, api.OK}, {full(256), nat.Of(5), nat.Of(7), nat.Of(1), api.OK}, // 2^8192 less 1 leaves 3 by 7
	} {
		if l, e := ratio.MulMod(x.x, x.y, x.m); e != x.e || !slices.Equal(l, x.want) {
			t.Error(i, l, e)
		}
	}
	r := rand.New(rand.NewSource(3))
	for i := range 3000 {
		most := 6
		if i%100 == 0 {
			most = 240
		}
		x, y, m := some(r, most), some(r, most), some(r, most/2)
		if nat.Bits(m) == 0 {
			continue
		}
		l, e := ratio.MulMod(x, y, m)
		want := new(big.Int).Mul(model(x), model(y))
		if e != api.OK || !is(l, want.Mod(want, model(m))) {
			t.Fatal(x, y, m, l, e)
		}
	}
}

func TestInverse(t *testing.T) {
	for _, x := range []struct {
		x, m, want api.Nat
		e          api.Errno
	}{
		{nat.Of(3), nat.Of(10), nat.Of(7), api.OK}, {nat.Of(13), nat.Of(10), nat.Of(7), api.OK}, {nat.Of(1), nat.Of(2), nat.Of(1), api.OK}, {nat.Of(9), nat.Of(10), nat.Of(9), api.OK},
		{nat.Of(4), nat.Of(10), nil, api.ErrInverse}, {nat.Of(1), nat.Of(1), nil, api.ErrInverse}, {nil, nat.Of(1), nil, api.ErrInverse}, {nil, nat.Of(5), nil, api.ErrInverse}, {nat.Of(1), nil, nil, api.ErrInverse}, {nat.Of(10), nat.Of(10), nil, api.ErrInverse}, {nil, nil, nil, api.ErrInverse},
		{beyond, nat.Of(1), nil, api.ErrNat}, {nat.Of(1), beyond, nil, api.ErrNat}, {nat.Of(1), full(129), nil, api.ErrNat}, {beyond, nil, nil, api.ErrNat},
	} {
		if l, e := ratio.Inverse(x.x, x.m); e != x.e || !slices.Equal(l, x.want) {
			t.Error(x.x, x.m, l, e)
		}
	}
	r := rand.New(rand.NewSource(4))
	for i := range 3000 {
		most := 4
		if i%300 == 0 {
			most = 128
		}
		x, m := some(r, 2*most), some(r, most)
		l, e := ratio.Inverse(x, m)
		want := new(big.Int)
		has := model(m).Cmp(big.NewInt(1)) > 0 && want.ModInverse(model(x), model(m)) != nil
		if (e == api.OK) != has || e != api.OK && (e != api.ErrInverse || l != nil) || has && !is(l, want) {
			t.Fatal(x, m, l, e)
		}
		if has {
			rest, _ := ratio.Mod(x, m)
			if back, e := ratio.Inverse(l, m); e != api.OK || !slices.Equal(back, rest) {
				t.Fatal(x, m, l, back, e)
			}
		}
	}
}

// TestMemory writes over all that is answered, and looks whether what was handed in is still as it was.
func TestMemory(t *testing.T) {
	x, m := api.Nat{9, 8, 7}, api.Nat{1, 2, 3, 4}
	keptX, keptM := slices.Clone(x), slices.Clone(m)
	one := nat.Of(1)
	only := func(l api.Nat, e api.Errno) api.Nat { return l }
	q, r, _ := ratio.Div(x, one)
	_, small, _ := ratio.Div(x, m)
	for i, l := range []api.Nat{q, r, small, only(ratio.Mod(x, m)), only(ratio.Gcd(x, nil)), only(ratio.Gcd(nil, x)), only(ratio.MulMod(x, one, m)), only(ratio.MulMod(one, x, m)), only(ratio.Inverse(x, m)), only(ratio.Inverse(one, m))} {
		for j := range l[:cap(l)] {
			l[:cap(l)][j] ^= 255
		}
		if !slices.Equal(x, keptX) || !slices.Equal(m, keptM) || !slices.Equal(one, nat.Of(1)) {
			t.Fatal(i, x, m, one)
		}
	}
}
