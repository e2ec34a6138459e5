package primes_test

import (
	"math"
	"math/big"
	"math/rand"
	"slices"
	"testing"

	"postmark/api"
	"postmark/nat"
	"postmark/primes"
)

// model is a natural as math/big has it, number the other way round.
func model(x api.Nat) *big.Int { return new(big.Int).SetBytes(nat.Bytes(x)) }

func number(n *big.Int) api.Nat {
	x, _ := nat.Read(n.Bytes())
	return x
}

// isRoot says whether n is the greatest number whose k-th power is at most x.
func isRoot(n, x *big.Int, k int) bool {
	power := func(n *big.Int) *big.Int { return new(big.Int).Exp(n, big.NewInt(int64(k)), nil) }
	return power(n).Cmp(x) <= 0 && power(new(big.Int).Add(n, big.NewInt(1))).Cmp(x) > 0
}

func TestFirst(t *testing.T) {
	if l, e := primes.First(5); e != api.OK || !slices.Equal(l, []int{2, 3, 5, 7, 11}) {
		t.Error(l, e)
	}
	if l, e := primes.First(0); e != api.OK || len(l) != 0 {
		t.Error(l, e)
	}
	for _, n := range []int{-1, math.MinInt, 1001, math.MaxInt} {
		if l, e := primes.First(n); e != api.ErrPrimes || l != nil {
			t.Error(n, len(l), e)
		}
	}
	var want []int
	for n := 2; len(want) < api.MaxPrimes; n++ {
		if !slices.ContainsFunc(want, func(p int) bool { return n%p == 0 }) {
			want = append(want, n)
		}
	}
	for _, n := range []int{1, 2, 3, 4, 30, 64, 80, 999, 1000} {
		if l, e := primes.First(n); e != api.OK || !slices.Equal(l, want[:n]) {
			t.Error(n, len(l), e)
		}
	}
}

func TestRoot(t *testing.T) {
	two64, _ := nat.Shl(nat.Of(1), 64)
	for _, x := range []struct {
		x    api.Nat
		k    int
		want api.Nat
		e    api.Errno
	}{
		{nat.Of(26), 3, nat.Of(2), api.OK}, {nat.Of(27), 3, nat.Of(3), api.OK}, {two64, 2, nat.Of(1 << 32), api.OK}, {nat.Of(math.MaxUint64), 2, nat.Of(math.MaxUint32), api.OK},
		{nil, 2, nil, api.OK}, {nil, 3, nil, api.OK}, {nat.Of(1), 2, nat.Of(1), api.OK}, {api.Nat{4, 0, 0}, 2, nat.Of(2), api.OK}, {nat.Of(3), 2, nat.Of(1), api.OK}, {nat.Of(7), 3, nat.Of(1), api.OK}, {nat.Of(8), 3, nat.Of(2), api.OK},
		{nat.Of(5), 4, nil, api.ErrArg}, {nat.Of(5), 1, nil, api.ErrArg}, {nat.Of(5), 0, nil, api.ErrArg}, {nat.Of(5), -2, nil, api.ErrArg}, {make(api.Nat, 300), 2, nil, api.OK},
		{slices.Repeat(api.Nat{1}, 257), 2, nil, api.ErrNat}, {slices.Repeat(api.Nat{1}, 257), 5, nil, api.ErrArg},
	} {
		if l, e := primes.Root(x.x, x.k); e != x.e || !slices.Equal(l, x.want) {
			t.Error(x.x, x.k, l, e)
		}
	}
	r := rand.New(rand.NewSource(1))
	for range 400 {
		x := make(api.Nat, r.Intn(8))
		for i := range x {
			x[i] = r.Uint32()
		}
		root := number(new(big.Int).SetUint64(r.Uint64()))
		for _, k := range []int{2, 3} {
			l, e := primes.Root(x, k)
			if e != api.OK || !isRoot(model(l), model(x), k) || len(l) > 0 && l[len(l)-1] == 0 {
				t.Fatal(x, k, l, e)
			}
			power := new(big.Int).Exp(model(root), big.NewInt(int64(k)), nil)
			if l, e := primes.Root(number(power), k); e != api.OK || !slices.Equal(l, root) {
				t.Fatal(root, k, l, e)
			}
			if less, e := primes.Root(number(new(big.Int).Sub(power, big.NewInt(1))), k); e != api.OK || !isRoot(model(less), new(big.Int).Sub(power, big.NewInt(1)), k) {
				t.Fatal(root, k, less, e)
			}
		}
	}
}

// TestGreatRoots are those of the longest naturals, whose next power is longer than any.
func TestGreatRoots(t *testing.T) {
	top := slices.Repeat(api.Nat{math.MaxUint32}, api.MaxLimbs)
	for _, k := range []int{2, 3} {
		if l, e := primes.Root(top, k); e != api.OK || !isRoot(model(l), model(top), k) {
			t.Error(k, len(l), e)
		}
	}
}

func TestFraction(t *testing.T) {
	for _, x := range []struct {
		n       uint64
		k, bits int
		want    uint64
		e       api.Errno
	}{
		{2, 2, 32, 0x6a09e667, api.OK}, {2, 3, 32, 0x428a2f98, api.OK}, {2, 2, 64, 0x6a09e667f3bcc908, api.OK}, {4, 2, 64, 0, api.OK}, {27, 3, 64, 0, api.OK}, {0, 2, 64, 0, api.OK}, {1, 3, 1, 0, api.OK},
		{2, 2, 1, 0, api.OK}, {3, 2, 1, 1, api.OK}, {2, 1, 32, 0, api.ErrArg}, {2, 4, 32, 0, api.ErrArg}, {2, 2, 0, 0, api.ErrArg}, {2, 2, 65, 0, api.ErrArg}, {2, 2, -1, 0, api.ErrArg}, {2, 3, math.MaxInt, 0, api.ErrArg},
	} {
		if n, e := primes.Fraction(x.n, x.k, x.bits); n != x.want || e != x.e {
			t.Errorf("%v: %x %v", x, n, e)
		}
	}
	r := rand.New(rand.NewSource(2))
	for range 300 {
		n, k, bits := r.Uint64()>>r.Intn(64), 2+r.Intn(2), 1+r.Intn(64)
		if r.Intn(4) == 0 {
			n = math.MaxUint64 - uint64(r.Intn(3))
		}
		x := new(big.Int).Lsh(new(big.Int).SetUint64(n), uint(k*bits))
		f, e := primes.Fraction(n, k, bits)
		root, _ := primes.Root(number(x), k)
		want := new(big.Int).Mod(model(root), new(big.Int).Lsh(big.NewInt(1), uint(bits)))
		if e != api.OK || !isRoot(model(root), x, k) || want.Uint64() != f {
			t.Fatalf("%v %v %v: %x %v", n, k, bits, f, e)
		}
		if whole, _ := primes.Fraction(n, k, 64); whole>>(64-bits) != f {
			t.Fatalf("%v %v %v: %x of %x", n, k, bits, f, whole)
		}
		square := uint64(r.Uint32())
		if f, e := primes.Fraction(square*square, 2, bits); f != 0 || e != api.OK {
			t.Fatal(square, f, e)
		}
	}
}

func TestTable(t *testing.T) {
	for _, x := range []struct {
		many, k, bits int
		e             api.Errno
	}{{-1, 2, 32, api.ErrPrimes}, {1001, 2, 32, api.ErrPrimes}, {1001, 9, 99, api.ErrPrimes}, {3, 4, 32, api.ErrArg}, {3, 2, 0, api.ErrArg}, {3, 3, 65, api.ErrArg}, {0, 4, 32, api.ErrArg}, {0, 2, 65, api.ErrArg}, {0, 2, 64, api.OK}} {
		if l, e := primes.Table(x.many, x.k, x.bits); e != x.e || len(l) != 0 {
			t.Error(x, l, e)
		}
	}
	for _, x := range [][3]int{{64, 3, 32}, {80, 3, 64}, {16, 2, 64}, {1000, 2, 7}} {
		l, e := primes.Table(x[0], x[1], x[2])
		first, _ := primes.First(x[0])
		if e != api.OK || len(l) != x[0] {
			t.Fatal(x, len(l), e)
		}
		for i, p := range first {
			if f, _ := primes.Fraction(uint64(p), x[1], x[2]); f != l[i] {
				t.Error(x, i, l[i], f)
			}
		}
	}
}

// TestMemory writes over what is answered, and asks again.
func TestMemory(t *testing.T) {
	l, _ := primes.First(9)
	table, _ := primes.Table(9, 2, 32)
	kept, keptTable := slices.Clone(l), slices.Clone(table)
	clear(l)
	clear(table)
	again, _ := primes.First(9)
	againTable, _ := primes.Table(9, 2, 32)
	if !slices.Equal(again, kept) || !slices.Equal(againTable, keptTable) {
		t.Error(again, againTable)
	}
	one := nat.Of(1)
	root, _ := primes.Root(one, 2)
	root[0] = 7
	if one[0] != 1 {
		t.Error(one)
	}
}
