package mask_test

import (
	"bytes"
	"crypto"
	_ "crypto/sha256"
	_ "crypto/sha512"
	"encoding/asn1"
	"encoding/hex"
	"math"
	"math/rand"
	"testing"

	"postmark/api"
	"postmark/mask"
)

// hashes are all four, with what they are elsewhere.
var hashes = []struct {
	h       api.Hash
	size    int
	name    string
	library crypto.Hash
	last    int // number of its identifier
}{
	{api.Sha224, 28, "sha224", crypto.SHA224, 4},
	{api.Sha256, 32, "sha256", crypto.SHA256, 1},
	{api.Sha384, 48, "sha384", crypto.SHA384, 2},
	{api.Sha512, 64, "sha512", crypto.SHA512, 3},
}

var noHashes = []api.Hash{0, 5, -1, math.MaxInt, math.MinInt}

func sum(h crypto.Hash, l ...[]byte) []byte {
	s := h.New()
	for _, b := range l {
		s.Write(b)
	}
	return s.Sum(nil)
}

func TestNames(t *testing.T) {
	for _, x := range hashes {
		if mask.Size(x.h) != x.size || mask.Name(x.h) != x.name || mask.Named(x.name) != x.h {
			t.Error(x.h)
		}
	}
	for _, h := range noHashes {
		if mask.Size(h) != 0 || mask.Name(h) != "" {
			t.Error(h)
		}
	}
	for _, s := range []string{"", "sha1", "SHA256", "sha256 ", "sha25", "md5"} {
		if mask.Named(s) != 0 {
			t.Error(s)
		}
	}
}

func TestSum(t *testing.T) {
	if b, e := mask.Sum(api.Sha256, []byte("a"), nil, []byte("bc")); e != api.OK || hex.EncodeToString(b) != "ba7816bf8f01cfea414140de5dae2223b00361a396177a9cb410ff61f20015ad" {
		t.Errorf("%x %v", b, e)
	}
	for _, x := range hashes {
		for _, l := range [][][]byte{nil, {nil}, {[]byte("ab"), []byte("c")}, {bytes.Repeat([]byte{7}, 100), {}, bytes.Repeat([]byte{9}, 100)}} {
			if b, e := mask.Sum(x.h, l...); e != api.OK || !bytes.Equal(b, sum(x.library, l...)) {
				t.Error(x.name, len(l), b, e)
			}
		}
	}
	for _, h := range noHashes {
		if b, e := mask.Sum(h, []byte("a")); b != nil || e != api.ErrMask {
			t.Error(h, b, e)
		}
	}
}

func TestMask(t *testing.T) {
	seed := []byte("some seed")
	for _, x := range hashes {
		var all []byte
		for n := range 5 {
			all = append(all, sum(x.library, seed, []byte{0, 0, 0, byte(n)})...)
		}
		for _, size := range []int{0, 1, x.size - 1, x.size, x.size + 1, 2 * x.size, 5*x.size - 1, 5 * x.size} {
			if b, e := mask.Mask(x.h, seed, size); e != api.OK || !bytes.Equal(b, all[:size]) {
				t.Error(x.name, size, len(b), e)
			}
		}
	}
	b, e := mask.Mask(api.Sha224, nil, api.MaxOctets)
	if e != api.OK || len(b) != api.MaxOctets || !bytes.Equal(b[28*300:28*301], sum(crypto.SHA224, []byte{0, 0, 1, 44})) {
		t.Error(len(b), e)
	}
	for _, size := range []int{-1, math.MinInt, api.MaxOctets + 1, math.MaxInt} {
		if b, e := mask.Mask(api.Sha256, nil, size); b != nil || e != api.ErrArg {
			t.Error(size, len(b), e)
		}
	}
	for _, h := range noHashes {
		for _, size := range []int{5, -1} {
			if b, e := mask.Mask(h, seed, size); b != nil || e != api.ErrMask {
				t.Error(h, b, e)
			}
		}
	}
}

// digestInfo is what a frame is the DER of.
type digestInfo struct {
	Algorithm struct {
		Oid  asn1.ObjectIdentifier
		Null asn1.RawValue
	}
	Digest []byte
}

func TestFrame(t *testing.T) {
	r := rand.New(rand.NewSource(1))
	for _, x := range hashes {
		digest := make([]byte, x.size)
		r.Read(digest)
		var info digestInfo
		info.Algorithm.Oid = asn1.ObjectIdentifier{2, 16, 840, 1, 101, 3, 4, 2, x.last}
		info.Algorithm.Null = asn1.NullRawValue
		info.Digest = digest
		want, err := asn1.Marshal(info)
		if err != nil {
			t.Fatal(err)
		}
		if b, e := mask.Frame(x.h, digest); e != api.OK || !bytes.Equal(b, want) {
			t.Errorf("%s: %x %v", x.name, b, e)
		}
		for _, size := range []int{0, x.size - 1, x.size + 1} {
			if b, e := mask.Frame(x.h, make([]byte, size)); b != nil || e != api.ErrMask {
				t.Error(x.name, size, b, e)
			}
		}
	}
	for _, h := range noHashes {
		if b, e := mask.Frame(h, nil); b != nil || e != api.ErrMask {
			t.Error(h, b, e)
		}
	}
}

func TestEncode(t *testing.T) {
	want := append([]byte{0, 1, 255, 255, 255, 255, 255, 255, 255, 255, 0, 0x30, 0x31, 0x30, 0x0d, 0x06, 0x09, 0x60, 0x86, 0x48, 0x01, 0x65, 0x03, 0x04, 0x02, 0x01, 0x05, 0x00, 0x04, 0x20}, make([]byte, 32)...)
	if b, e := mask.Encode(api.Sha256, make([]byte, 32), 62); e != api.OK || !bytes.Equal(b, want) {
		t.Errorf("%x %v", b, e)
	}
	for _, x := range hashes {
		digest := bytes.Repeat([]byte{x.library.String()[0]}, x.size)
		frame, _ := mask.Frame(x.h, digest)
		for _, size := range []int{len(frame) + 11, len(frame) + 12, 512, api.MaxOctets} {
			b, e := mask.Encode(x.h, digest, size)
			if e != api.OK || len(b) != size || b[0] != 0 || b[1] != 1 || b[size-len(frame)-1] != 0 || !bytes.Equal(b[size-len(frame):], frame) || !bytes.Equal(b[2:size-len(frame)-1], bytes.Repeat([]byte{255}, size-len(frame)-3)) {
				t.Error(x.name, size, e)
			}
		}
		for _, size := range []int{len(frame) + 10, len(frame), 0, -1, math.MinInt, api.MaxOctets + 1, math.MaxInt} {
			if b, e := mask.Encode(x.h, digest, size); b != nil || e != api.ErrArg {
				t.Error(x.name, size, len(b), e)
			}
		}
		if b, e := mask.Encode(x.h, digest[1:], -1); b != nil || e != api.ErrMask {
			t.Error(x.name, b, e)
		}
	}
	for _, h := range noHashes {
		if b, e := mask.Encode(h, nil, 99); b != nil || e != api.ErrMask {
			t.Error(h, b, e)
		}
	}
}

// TestWhatFollows: a mask of fewer bytes begins one of more; encodings are the same just if hash and digest are.
func TestWhatFollows(t *testing.T) {
	long, _ := mask.Mask(api.Sha384, []byte("s"), 500)
	for size := range 500 {
		if b, _ := mask.Mask(api.Sha384, []byte("s"), size); !bytes.Equal(b, long[:size]) {
			t.Fatal(size)
		}
	}
	seen := map[string]int{}
	count := 0
	for _, x := range hashes {
		for i := range x.size {
			digest := make([]byte, x.size)
			digest[i] = 1
			b, _ := mask.Encode(x.h, digest, 200)
			seen[string(b)]++
			count++
		}
	}
	if len(seen) != count {
		t.Error(len(seen), count)
	}
}

func TestMemory(t *testing.T) {
	given := bytes.Repeat([]byte{3}, 32)
	kept := bytes.Clone(given)
	only := func(b []byte, e api.Errno) []byte { return b }
	ask := func() [][]byte {
		return [][]byte{only(mask.Sum(api.Sha256, given)), only(mask.Mask(api.Sha256, given, 40)), only(mask.Frame(api.Sha256, given)), only(mask.Encode(api.Sha256, given, 80))}
	}
	first := ask()
	want := make([][]byte, len(first))
	for i, b := range first {
		want[i] = bytes.Clone(b)
		clear(b[:cap(b)])
	}
	for i, b := range ask() {
		if !bytes.Equal(b, want[i]) || !bytes.Equal(given, kept) {
			t.Error(i, b)
		}
	}
}
