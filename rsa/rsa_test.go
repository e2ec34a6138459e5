package rsa_test

import (
	"bytes"
	"crypto"
	library "crypto/rsa"
	_ "crypto/sha256"
	_ "crypto/sha512"
	"math/big"
	"math/rand"
	"testing"

	"postmark/api"
	"postmark/mask"
	"postmark/octet"
	"postmark/pss"
	"postmark/rsa"
	"postmark/sample"
)

var (
	ways   = []api.Way{api.Pkcs, api.Pss}
	hashes = []api.Hash{api.Sha224, api.Sha256, api.Sha384, api.Sha512}
	named  = map[api.Hash]crypto.Hash{api.Sha224: crypto.SHA224, api.Sha256: crypto.SHA256, api.Sha384: crypto.SHA384, api.Sha512: crypto.SHA512}
)

// mersenne is the key of which the primes are 2 to these powers, less 1.
func mersenne(powers ...int) api.Key {
	one := big.NewInt(1)
	n, phi := big.NewInt(1), big.NewInt(1)
	for _, power := range powers {
		p := new(big.Int).Sub(new(big.Int).Lsh(one, uint(power)), one)
		n.Mul(n, p)
		phi.Mul(phi, p.Sub(p, one))
	}
	e := big.NewInt(65537)
	return api.Key{N: n.Bytes(), E: e.Bytes(), D: new(big.Int).ModInverse(e, phi).Bytes()}
}

// ofBits is a public key of so many bits.
func ofBits(bits int) api.Key {
	n := new(big.Int).Lsh(big.NewInt(1), uint(bits-1))
	return api.Key{N: n.SetBit(n, 0, 1).Bytes(), E: []byte{3}}
}

func some(r *rand.Rand, size int) []byte {
	b := make([]byte, size)
	r.Read(b)
	return b
}

func TestSample(t *testing.T) {
	for i, x := range []struct{ got, want api.Key }{{sample.Small(), mersenne(521, 61)}, {sample.Large(), mersenne(607, 521)}} {
		if !bytes.Equal(x.got.N, x.want.N) || !bytes.Equal(x.got.E, x.want.E) || !bytes.Equal(x.got.D, x.want.D) || !rsa.Halves(x.got) {
			t.Error(i)
		}
	}
}

func TestPublicAndPrivate(t *testing.T) {
	good := sample.Small()
	with := func(change func(k *api.Key)) api.Key {
		k := sample.Small()
		change(&k)
		return k
	}
	even := func(b []byte) []byte {
		b = bytes.Clone(b)
		b[len(b)-1] &^= 1
		return b
	}
	less := new(big.Int).Sub(new(big.Int).SetBytes(good.N), big.NewInt(1)).Bytes()
	for i, x := range []struct {
		k               api.Key
		public, private api.Errno
		size            int
	}{
		{good, api.OK, api.OK, 73}, {sample.Large(), api.OK, api.OK, 141}, {api.Key{}, api.ErrKey, api.ErrKey, 0},
		{with(func(k *api.Key) { k.E = []byte{4} }), api.ErrKey, api.ErrKey, 0}, {with(func(k *api.Key) { k.E = []byte{3} }), api.OK, api.OK, 73}, {with(func(k *api.Key) { k.E = []byte{1} }), api.ErrKey, api.ErrKey, 0}, {with(func(k *api.Key) { k.E = nil }), api.ErrKey, api.ErrKey, 0},
		{with(func(k *api.Key) { k.E = bytes.Repeat([]byte{255}, 8) }), api.OK, api.OK, 73}, {with(func(k *api.Key) { k.E = []byte{1, 0, 0, 0, 0, 0, 0, 0, 1} }), api.ErrKey, api.ErrKey, 0}, {with(func(k *api.Key) { k.E = []byte{0, 3} }), api.ErrKey, api.ErrKey, 0}, {with(func(k *api.Key) { k.E = k.N }), api.ErrKey, api.ErrKey, 0},
		{with(func(k *api.Key) { k.N = append([]byte{2}, make([]byte, 65)...) }), api.ErrKey, api.ErrKey, 0}, {with(func(k *api.Key) { k.N = even(k.N) }), api.ErrKey, api.ErrKey, 0}, {with(func(k *api.Key) { k.N = append([]byte{0}, k.N...) }), api.ErrKey, api.ErrKey, 0}, {with(func(k *api.Key) { k.N = nil }), api.ErrKey, api.ErrKey, 0},
		{ofBits(256), api.OK, api.ErrKey, 32}, {ofBits(255), api.ErrKey, api.ErrKey, 0}, {ofBits(4096), api.OK, api.ErrKey, 512}, {ofBits(4097), api.ErrKey, api.ErrKey, 0}, {ofBits(9000), api.ErrKey, api.ErrKey, 0},
		{with(func(k *api.Key) { k.D = nil }), api.OK, api.ErrKey, 73}, {with(func(k *api.Key) { k.D = []byte{1} }), api.OK, api.OK, 73}, {with(func(k *api.Key) { k.D = []byte{0, 1} }), api.OK, api.ErrKey, 73}, {with(func(k *api.Key) { k.D = []byte{0} }), api.OK, api.ErrKey, 73},
		{with(func(k *api.Key) { k.D = k.N }), api.OK, api.ErrKey, 73}, {with(func(k *api.Key) { k.D = less }), api.OK, api.OK, 73}, {with(func(k *api.Key) { k.D = make([]byte, 2000) }), api.OK, api.ErrKey, 73}, {with(func(k *api.Key) { k.D = bytes.Repeat([]byte{1}, 2000) }), api.OK, api.ErrKey, 73},
	} {
		if e := rsa.Public(x.k); e != x.public {
			t.Error(i, e)
		}
		if e := rsa.Private(x.k); e != x.private {
			t.Error(i, e)
		}
		if n := rsa.Size(x.k); n != x.size {
			t.Error(i, n)
		}
	}
}

func TestHalves(t *testing.T) {
	for i, k := range []api.Key{sample.Small(), sample.Large(), mersenne(521, 107, 61), mersenne(521, 127)} {
		if !rsa.Halves(k) {
			t.Error(i)
		}
		for j, d := range [][]byte{{1}, {3}, nil, k.N, append([]byte{0}, k.D...)} {
			k.D = d
			if rsa.Halves(k) {
				t.Error(i, j)
			}
		}
	}
	// Of a Mersenne prime 2 comes round after 521 times, and others do not: it is 2 that is asked.
	round := mersenne(521)
	round.E, round.D = []byte{3}, []byte{174}
	if !rsa.Halves(round) {
		t.Error("2 comes round")
	}
	if rsa.Halves(api.Key{}) || rsa.Halves(ofBits(256)) {
		t.Error("halves of none")
	}
}

func TestRoom(t *testing.T) {
	k := sample.Small()
	for _, x := range []struct {
		way  api.Way
		h    api.Hash
		want bool
	}{{api.Pss, api.Sha256, true}, {api.Pss, api.Sha384, false}, {api.Pkcs, api.Sha256, true}, {api.Pkcs, api.Sha384, false}, {3, api.Sha256, false}, {0, api.Sha256, false}, {-1, api.Sha256, false}, {api.Pkcs, api.Sha224, true}, {api.Pss, api.Sha224, true}, {api.Pkcs, 0, false}, {api.Pss, 0, false}, {api.Pss, 5, false}, {api.Pkcs, 5, false}} {
		if rsa.Room(k, x.way, x.h) != x.want {
			t.Error(x)
		}
	}
	k.E = nil
	if rsa.Room(k, api.Pss, api.Sha256) {
		t.Error("room in a key that may not be public")
	}
	// The least keys in which there is room: Pkcs asks for bytes, Pss for bits.
	for _, x := range []struct {
		way  api.Way
		h    api.Hash
		bits int
	}{{api.Pkcs, api.Sha256, 8*61 + 1}, {api.Pkcs, api.Sha512, 8*93 + 1}, {api.Pss, api.Sha256, 8*65 + 2}, {api.Pss, api.Sha512, 8*129 + 2}, {api.Pss, api.Sha224, 8*57 + 2}} {
		if !rsa.Room(ofBits(x.bits), x.way, x.h) || rsa.Room(ofBits(x.bits-1), x.way, x.h) {
			t.Error(x)
		}
	}
}

func TestRaiseAndLower(t *testing.T) {
	k := sample.Small()
	one := append(make([]byte, 72), 1)
	for i, x := range []struct {
		b, want []byte
		e       api.Errno
	}{{[]byte{1}, one, api.OK}, {nil, make([]byte, 73), api.OK}, {k.N, nil, api.ErrSign}, {append([]byte{0, 0}, k.N...), nil, api.ErrSign}, {append(bytes.Clone(k.N), 0), nil, api.ErrSign}, {bytes.Repeat([]byte{1}, 2000), nil, api.ErrSign}, {append(make([]byte, 2000), 1), one, api.OK}} {
		if b, e := rsa.Raise(k, x.b); e != x.e || !bytes.Equal(b, x.want) {
			t.Error(i, b, e)
		}
		if b, e := rsa.Lower(k, x.b); e != x.e || !bytes.Equal(b, x.want) {
			t.Error(i, b, e)
		}
	}
	public := k
	public.D = nil
	if b, e := rsa.Lower(public, []byte{1}); b != nil || e != api.ErrKey {
		t.Error(b, e)
	}
	if b, e := rsa.Raise(public, []byte{1}); !bytes.Equal(b, one) || e != api.OK {
		t.Error(b, e)
	}
	public.E = nil
	if b, e := rsa.Raise(public, public.N); b != nil || e != api.ErrKey {
		t.Error(b, e)
	}
	r := rand.New(rand.NewSource(1))
	n := new(big.Int).SetBytes(k.N)
	for range 50 {
		x := new(big.Int).Rand(r, n)
		for i, do := range []func(api.Key, []byte) ([]byte, api.Errno){rsa.Raise, rsa.Lower} {
			power := new(big.Int).SetBytes([][]byte{k.E, k.D}[i])
			want, _ := octet.Pad(new(big.Int).Exp(x, power, n).Bytes(), 73)
			if b, e := do(k, x.Bytes()); e != api.OK || !bytes.Equal(b, want) {
				t.Fatal(i, x, b, e)
			}
		}
	}
}

// TestSigned looks at what is signed, raised again.
func TestSigned(t *testing.T) {
	r := rand.New(rand.NewSource(2))
	for i, k := range []api.Key{sample.Small(), sample.Large(), mersenne(521, 107, 61), mersenne(521, 127)} {
		n := new(big.Int).SetBytes(k.N)
		for _, way := range ways {
			for _, h := range hashes {
				digest, salt := some(r, mask.Size(h)), some(r, mask.Size(h))
				sig, e := rsa.Sign(k, way, h, digest, salt)
				if !rsa.Room(k, way, h) {
					if sig != nil || e != api.ErrSign || rsa.Verify(k, way, h, digest, make([]byte, len(k.N))) {
						t.Error(i, way, h, e)
					}
					continue
				}
				raised, _ := rsa.Raise(k, sig)
				want, _ := mask.Encode(h, digest, len(k.N))
				if way == api.Pss {
					want, _ = pss.Encode(h, digest, salt, n.BitLen()-1)
				}
				if e != api.OK || len(sig) != len(k.N) || !bytes.Equal(octet.Trim(raised), octet.Trim(want)) || !rsa.Verify(k, way, h, digest, sig) {
					t.Error(i, way, h, sig, e)
				}
			}
		}
	}
}

func TestSignWrong(t *testing.T) {
	k := sample.Small()
	digest := make([]byte, 32)
	for i, x := range []struct {
		way          api.Way
		h            api.Hash
		digest, salt []byte
		e            api.Errno
	}{
		{api.Pss, api.Sha256, digest, digest, api.OK}, {api.Pkcs, api.Sha256, digest, digest, api.OK}, {api.Pkcs, api.Sha256, digest, nil, api.OK}, {api.Pkcs, api.Sha256, digest, make([]byte, 99), api.OK},
		{api.Pss, api.Sha256, digest, digest[1:], api.ErrSign}, {api.Pss, api.Sha256, digest, make([]byte, 33), api.ErrSign}, {api.Pss, api.Sha256, digest, nil, api.ErrSign}, {api.Pss, api.Sha256, digest[1:], digest, api.ErrSign}, {api.Pkcs, api.Sha256, digest[1:], nil, api.ErrSign}, {api.Pkcs, api.Sha256, nil, nil, api.ErrSign},
		{0, api.Sha256, digest, digest, api.ErrSign}, {3, api.Sha256, digest, digest, api.ErrSign}, {api.Pkcs, 0, nil, nil, api.ErrSign}, {api.Pss, 0, nil, nil, api.ErrSign}, {api.Pss, 9, nil, nil, api.ErrSign}, {api.Pkcs, api.Sha384, make([]byte, 48), nil, api.ErrSign}, {api.Pss, api.Sha384, make([]byte, 48), make([]byte, 48), api.ErrSign},
	} {
		if b, e := rsa.Sign(k, x.way, x.h, x.digest, x.salt); e != x.e || (b == nil) != (e != api.OK) {
			t.Error(i, b, e)
		}
	}
	k.D = nil
	if b, e := rsa.Sign(k, 3, api.Sha256, nil, nil); b != nil || e != api.ErrKey {
		t.Error(b, e)
	}
}

func TestVerifyWrong(t *testing.T) {
	r := rand.New(rand.NewSource(3))
	k := mersenne(521, 107, 61) // of 689 bits: an encoding of Pss has a byte less than the key
	n := new(big.Int).SetBytes(k.N)
	for _, way := range ways {
		digest, salt := some(r, 32), some(r, 32)
		sig, e := rsa.Sign(k, way, api.Sha256, digest, salt)
		if e != api.OK || !rsa.Verify(k, way, api.Sha256, digest, sig) {
			t.Fatal(way, e)
		}
		turned := func(b []byte) []byte {
			b = bytes.Clone(b)
			b[r.Intn(len(b))] ^= 1 << r.Intn(8)
			return b
		}
		for range 60 {
			if rsa.Verify(k, way, api.Sha256, turned(digest), sig) || rsa.Verify(k, way, api.Sha256, digest, turned(sig)) {
				t.Error(way, "what was turned is verified")
			}
		}
		public := k
		public.D = nil
		if !rsa.Verify(public, way, api.Sha256, digest, sig) {
			t.Error(way, "a public key does not verify")
		}
		public.E = nil
		if rsa.Verify(public, way, api.Sha256, digest, sig) {
			t.Error(way, "no key verifies")
		}
		other := sample.Small()
		above := new(big.Int).Add(new(big.Int).SetBytes(sig), n).Bytes() // the same modulo N
		for i, x := range []struct {
			k           api.Key
			way         api.Way
			h           api.Hash
			digest, sig []byte
		}{
			{k, 3 - way, api.Sha256, digest, sig}, {k, 3, api.Sha256, digest, sig}, {k, way, api.Sha224, digest[:28], sig}, {k, way, api.Sha384, digest, sig}, {k, way, 0, digest, sig}, {k, way, api.Sha256, digest[1:], sig}, {k, way, api.Sha256, nil, sig}, {k, way, api.Sha256, append(bytes.Clone(digest), 0), sig},
			{k, way, api.Sha256, digest, sig[1:]}, {k, way, api.Sha256, digest, append([]byte{0}, sig...)}, {k, way, api.Sha256, digest, nil}, {k, way, api.Sha256, digest, above}, {k, way, api.Sha256, digest, k.N}, {other, way, api.Sha256, digest, sig}, {other, way, api.Sha256, digest, sig[:73]},
		} {
			if rsa.Verify(x.k, x.way, x.h, x.digest, x.sig) {
				t.Error(way, i, "verified")
			}
		}
	}
}

// TestSaltSize: by Pss another salt of the hash's size is verified, one of another size never.
func TestSaltSize(t *testing.T) {
	k := sample.Large()
	digest := make([]byte, 32)
	for size := range 64 {
		b, _ := pss.Encode(api.Sha256, digest, make([]byte, size), 1127)
		sig, e := rsa.Lower(k, b)
		if e != api.OK || rsa.Verify(k, api.Pss, api.Sha256, digest, sig) != (size == 32) {
			t.Error(size, e)
		}
	}
}

// TestBitsAbove raises to an encoding that has more bits than it may have.
func TestBitsAbove(t *testing.T) {
	k := mersenne(521, 107, 61)
	digest := make([]byte, 32)
	b, _ := pss.Encode(api.Sha256, digest, digest, 688)
	for i, x := range []struct {
		b    []byte
		fine bool
	}{{b, true}, {append([]byte{1}, b...), false}} {
		sig, e := rsa.Lower(k, x.b)
		if (e == api.OK) && rsa.Verify(k, api.Pss, api.Sha256, digest, sig) != x.fine {
			t.Error(i, e)
		}
	}
}

// TestAgainstLibrary lets the library verify what is signed, and verifies what it signs.
func TestAgainstLibrary(t *testing.T) {
	r := rand.New(rand.NewSource(4))
	k := sample.Large()
	public := &library.PublicKey{N: new(big.Int).SetBytes(k.N), E: 65537}
	for _, h := range hashes {
		digest, salt := some(r, mask.Size(h)), some(r, mask.Size(h))
		sig, _ := rsa.Sign(k, api.Pkcs, h, digest, nil)
		if err := library.VerifyPKCS1v15(public, named[h], digest, sig); err != nil {
			t.Error(h, err)
		}
		sig, _ = rsa.Sign(k, api.Pss, h, digest, salt)
		if err := library.VerifyPSS(public, named[h], digest, sig, &library.PSSOptions{SaltLength: len(salt)}); err != nil {
			t.Error(h, err)
		}
	}
}

func TestMemory(t *testing.T) {
	k := sample.Small()
	digest, salt := bytes.Repeat([]byte{1}, 32), bytes.Repeat([]byte{2}, 32)
	sig, _ := rsa.Sign(k, api.Pss, api.Sha256, digest, salt)
	rsa.Verify(k, api.Pss, api.Sha256, digest, sig)
	raised, _ := rsa.Raise(k, []byte{1})
	clear(raised)
	clear(sig)
	kept := sample.Small()
	if !bytes.Equal(k.N, kept.N) || !bytes.Equal(k.E, kept.E) || !bytes.Equal(k.D, kept.D) || !bytes.Equal(digest, bytes.Repeat([]byte{1}, 32)) || !bytes.Equal(salt, bytes.Repeat([]byte{2}, 32)) {
		t.Error("what was handed in is turned")
	}
}
