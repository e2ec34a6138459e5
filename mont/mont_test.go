package mont_test

import (
	"math"
	"math/big"
	"math/rand"
	"slices"
	"testing"

	"postmark/api"
	"postmark/mont"
	"postmark/nat"
	"postmark/ratio"
)

func model(x api.Nat) *big.Int { return new(big.Int).SetBytes(nat.Bytes(x)) }

// is says whether an answer is a number, trimmed.
func is(x api.Nat, want *big.Int) bool {
	return model(x).Cmp(want) == 0 && (len(x) == 0 || x[len(x)-1] != 0)
}

func some(r *rand.Rand, most int) api.Nat {
	x := make(api.Nat, r.Intn(most+1))
	for i := range x {
		x[i] = [...]uint32{r.Uint32(), r.Uint32(), math.MaxUint32, 0}[r.Intn(4)]
	}
	return append(x, make(api.Nat, r.Intn(2)*r.Intn(3))...)
}

// odd is a modulus of at most so many limbs.
func odd(r *rand.Rand, most int) api.Nat {
	m := append(api.Nat{0}, some(r, most-1)...)
	m[0] = r.Uint32() | 1
	if nat.Cmp(m, nat.Of(3)) < 0 {
		m[0] = 3
	}
	return m
}

func full(limbs int) api.Nat { return slices.Repeat(api.Nat{math.MaxUint32}, limbs) }

var beyond = append(make(api.Nat, 256), 1)

func TestNew(t *testing.T) {
	for i, x := range []struct {
		m, want api.Nat
		e       api.Errno
	}{
		{nat.Of(3), nat.Of(3), api.OK}, {api.Nat{5, 0, 0}, nat.Of(5), api.OK}, {full(128), full(128), api.OK}, {append(full(128), make(api.Nat, 200)...), full(128), api.OK}, {nat.Of(1<<32 + 1), nat.Of(1<<32 + 1), api.OK},
		{nil, nil, api.ErrMont}, {nat.Of(1), nil, api.ErrMont}, {nat.Of(2), nil, api.ErrMont}, {nat.Of(8), nil, api.ErrMont}, {full(129), nil, api.ErrMont}, {full(257), nil, api.ErrMont}, {nat.Of(1 << 40), nil, api.ErrMont}, {api.Nat{1, 0}, nil, api.ErrMont},
	} {
		w, e := mont.New(x.m)
		if e != x.e || !slices.Equal(w.Modulus(), x.want) || (w == nil) != (e != api.OK) {
			t.Error(i, w.Modulus(), e)
		}
		if _, e := mont.Power(nat.Of(1), nat.Of(1), x.m); e != x.e {
			t.Error(i, e)
		}
		if _, e := mont.Power(beyond, nat.Of(1), x.m); x.e != api.OK && e != x.e || x.e == api.OK && e != api.ErrNat {
			t.Error(i, e)
		}
	}
}

func TestPowerExamples(t *testing.T) {
	for i, x := range []struct {
		x, k, m, want api.Nat
		e             api.Errno
	}{
		{nat.Of(3), nat.Of(5), nat.Of(7), nat.Of(5), api.OK}, {nat.Of(2), nil, nat.Of(5), nat.Of(1), api.OK}, {nil, nil, nat.Of(3), nat.Of(1), api.OK}, {nil, nat.Of(9), nat.Of(3), nil, api.OK}, {nat.Of(6), nat.Of(2), nat.Of(3), nil, api.OK}, {nat.Of(2), api.Nat{0, 0}, nat.Of(5), nat.Of(1), api.OK},
		{nat.Of(2), nat.Of(10), nat.Of(1<<32 + 1), nat.Of(1024), api.OK}, // an odd number, and so it is one
		{nat.Of(10), nat.Of(3), nat.Of(8), nil, api.ErrMont}, {nat.Of(1), nat.Of(1), nat.Of(1), nil, api.ErrMont},
		{beyond, nat.Of(1), nat.Of(3), nil, api.ErrNat}, {nat.Of(1), beyond, nat.Of(3), nil, api.ErrNat}, {nat.Of(1), full(256), nat.Of(3), nat.Of(1), api.OK}, {full(256), nat.Of(1), nat.Of(3), nil, api.OK},
	} {
		if l, e := mont.Power(x.x, x.k, x.m); e != x.e || !slices.Equal(l, x.want) {
			t.Error(i, l, e)
		}
	}
}

func TestProductInOut(t *testing.T) {
	w, _ := mont.New(nat.Of(1<<32 - 1))
	if l, e := w.In(nat.Of(1)); e != api.OK || !slices.Equal(l, nat.Of(1)) {
		t.Error(l, e)
	}
	if l, e := w.Product(nat.Of(2), nat.Of(3)); e != api.OK || !slices.Equal(l, nat.Of(6)) {
		t.Error(l, e)
	}
	m := nat.Of(1<<32 - 1)
	for i, two := range [][2]api.Nat{{m, nat.Of(1)}, {nat.Of(1), m}, {beyond, nil}, {nil, full(300)}, {nat.Of(1 << 32), nil}} {
		if l, e := w.Product(two[0], two[1]); e != api.ErrMont || l != nil {
			t.Error(i, l, e)
		}
	}
	for i, x := range []api.Nat{m, beyond, full(300)} {
		if l, e := w.Out(x); e != api.ErrMont || l != nil {
			t.Error(i, l, e)
		}
	}
	if l, e := w.In(beyond); e != api.ErrNat || l != nil {
		t.Error(l, e)
	}
	if l, e := w.In(full(256)); e != api.OK || len(l) != 0 {
		t.Error(l, e)
	}
	if l, e := w.Product(api.Nat{2, 0, 0, 0}, api.Nat{3, 0}); e != api.OK || !slices.Equal(l, nat.Of(6)) {
		t.Error(l, e)
	}
	if l, e := w.Out(make(api.Nat, 300)); e != api.OK || len(l) != 0 {
		t.Error(l, e)
	}
}

func TestNone(t *testing.T) {
	var none *mont.Wheel
	one := nat.Of(1)
	for i, w := range []*mont.Wheel{none, {}} {
		if w.Modulus() != nil {
			t.Error(i)
		}
		if l, e := w.Product(one, one); l != nil || e != api.ErrNil {
			t.Error(i, l, e)
		}
		if l, e := w.In(one); l != nil || e != api.ErrNil {
			t.Error(i, l, e)
		}
		if l, e := w.Out(one); l != nil || e != api.ErrNil {
			t.Error(i, l, e)
		}
		if l, e := w.Power(beyond, one); l != nil || e != api.ErrNil {
			t.Error(i, l, e)
		}
	}
}

// TestAgainstModel holds wheels of all lengths against math/big.
func TestAgainstModel(t *testing.T) {
	r := rand.New(rand.NewSource(1))
	for i := range 2500 {
		most := 5
		if i%250 == 0 {
			most = 128
		}
		m := odd(r, most)
		w, e := mont.New(m)
		if e != api.OK {
			t.Fatal(m, e)
		}
		n := model(m)
		bigR := new(big.Int).Lsh(big.NewInt(1), uint(32*len(w.Modulus())))
		x, y, k := some(r, most+3), some(r, most+3), some(r, 3)
		in, e := w.In(x)
		want := new(big.Int).Mul(model(x), bigR)
		if e != api.OK || !is(in, want.Mod(want, n)) {
			t.Fatal("in", m, x, in, e)
		}
		rest, _ := ratio.Mod(x, m)
		if out, e := w.Out(in); e != api.OK || !slices.Equal(out, rest) {
			t.Fatal("out", m, x, out, e)
		}
		other, _ := ratio.Mod(y, m)
		p, e := w.Product(rest, other)
		left := new(big.Int).Mul(model(p), bigR)
		right := new(big.Int).Mul(model(x), model(y))
		if e != api.OK || model(p).Cmp(n) >= 0 || !is(p, model(p)) || left.Mod(left, n).Cmp(right.Mod(right, n)) != 0 {
			t.Fatal("product", m, x, y, p, e)
		}
		inY, _ := w.In(y)
		product, _ := ratio.MulMod(x, y, m)
		both, _ := w.Product(in, inY)
		if of, _ := w.In(product); !slices.Equal(of, both) {
			t.Fatal("product of two Ins", m, x, y)
		}
		power, e := w.Power(x, k)
		if e != api.OK || !is(power, new(big.Int).Exp(model(x), model(k), n)) {
			t.Fatal("power", m, x, k, power, e)
		}
		if alone, e := mont.Power(x, k, m); e != api.OK || !slices.Equal(alone, power) {
			t.Fatal("power", m, x, k, alone, e)
		}
	}
}

// TestWhatFollows are the laws of powers.
func TestWhatFollows(t *testing.T) {
	r := rand.New(rand.NewSource(2))
	for range 500 {
		m := odd(r, 4)
		w, _ := mont.New(m)
		x, y, a, b := some(r, 5), some(r, 5), some(r, 2), some(r, 2)
		power := func(x, k api.Nat) api.Nat {
			l, e := w.Power(x, k)
			if e != api.OK {
				t.Fatal(e)
			}
			return l
		}
		times := func(x, y api.Nat) api.Nat {
			l, _ := ratio.MulMod(x, y, m)
			return l
		}
		sum, _ := nat.Add(a, b)
		product, _ := nat.Mul(a, b)
		if !slices.Equal(power(x, sum), times(power(x, a), power(x, b))) || !slices.Equal(power(power(x, a), b), power(x, product)) || !slices.Equal(power(times(x, y), a), times(power(x, a), power(y, a))) {
			t.Fatal(m, x, y, a, b)
		}
	}
}

// TestMemory writes over all that is handed in and answered, and asks again.
func TestMemory(t *testing.T) {
	m := api.Nat{11, 5, 9}
	kept := slices.Clone(m)
	w, _ := mont.New(m)
	clear(m)
	x, k, one := api.Nat{7, 7}, api.Nat{1}, nat.Of(1)
	only := func(l api.Nat, e api.Errno) api.Nat { return l }
	ask := func() []api.Nat {
		return []api.Nat{w.Modulus(), only(w.Product(x, x)), only(w.In(x)), only(w.In(one)), only(w.Out(x)), only(w.Power(x, k)), only(w.Power(x, nil)), only(mont.Power(x, k, kept))}
	}
	first := ask()
	want := make([]api.Nat, len(first))
	for i, l := range first {
		want[i] = slices.Clone(l)
		for j := range l[:cap(l)] {
			l[:cap(l)][j] ^= 255
		}
	}
	for i, l := range ask() {
		if !slices.Equal(l, want[i]) {
			t.Error(i, l, want[i])
		}
	}
	if !slices.Equal(x, api.Nat{7, 7}) || !slices.Equal(k, api.Nat{1}) || !slices.Equal(want[0], kept) {
		t.Error(x, k, want[0])
	}
}
