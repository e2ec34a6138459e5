package oid_test

import (
	"bytes"
	"encoding/asn1"
	"encoding/hex"
	"math"
	"math/big"
	"math/rand"
	"slices"
	"strings"
	"testing"

	"postmark/api"
	"postmark/oid"
)

const top = 1<<63 - 1

// model are the bytes of numbers that may be, number by number by math/big.
func model(l []uint64) []byte {
	first := new(big.Int).SetUint64(l[0])
	first.Mul(first, big.NewInt(40)).Add(first, new(big.Int).SetUint64(l[1]))
	all := []*big.Int{first}
	for _, n := range l[2:] {
		all = append(all, new(big.Int).SetUint64(n))
	}
	var b []byte
	for _, n := range all {
		var one []byte
		for last := byte(0); ; last = 128 {
			one = append([]byte{byte(new(big.Int).And(n, big.NewInt(127)).Int64()) | last}, one...)
			n = new(big.Int).Rsh(n, 7)
			if n.Sign() == 0 {
				break
			}
		}
		b = append(b, one...)
	}
	return b
}

func twenty(last ...uint64) []uint64 { return append([]uint64{1, 2}, last...) }

func TestCheck(t *testing.T) {
	for i, x := range []struct {
		l    []uint64
		fine bool
	}{
		{[]uint64{0, 0}, true}, {[]uint64{0, 39}, true}, {[]uint64{1, 39}, true}, {[]uint64{2, 40}, true}, {[]uint64{2, 999, 3}, true}, {[]uint64{1, 2, top}, true}, {twenty(make([]uint64, 18)...), true}, {[]uint64{2, top - 80}, true},
		{nil, false}, {[]uint64{1}, false}, {[]uint64{3, 1}, false}, {[]uint64{0, 40}, false}, {[]uint64{1, 40}, false}, {[]uint64{1, 2, top + 1}, false}, {[]uint64{1, 2, math.MaxUint64}, false}, {[]uint64{2, top + 1}, false}, {[]uint64{2, top - 79}, false}, {[]uint64{2, top}, false}, {twenty(make([]uint64, 19)...), false}, {[]uint64{math.MaxUint64, 1}, false}, {[]uint64{1, 2, top + 1, 3}, false},
	} {
		want := api.OK
		if !x.fine {
			want = api.ErrOid
		}
		if e := oid.Check(x.l); e != want {
			t.Error(i, e)
		}
		text, e := oid.Text(x.l)
		if e != want || (text == "") == x.fine {
			t.Error(i, text, e)
		}
		b, e := oid.Bytes(x.l)
		if e != want || (b == nil) == x.fine {
			t.Error(i, b, e)
		}
		if !x.fine {
			continue
		}
		if !bytes.Equal(b, model(x.l)) {
			t.Error(i, b)
		}
		if l, e := oid.Read(b); e != api.OK || !slices.Equal(l, x.l) {
			t.Error(i, l, e)
		}
		if l, e := oid.Parse(text); e != api.OK || !slices.Equal(l, x.l) {
			t.Error(i, l, e)
		}
	}
}

func TestParse(t *testing.T) {
	for _, s := range []string{"1.2.840", "0.0", "2.999", "1.2.0.0", "2.9223372036854775727", "1.2.9223372036854775807", "1.2" + strings.Repeat(".7", 18)} {
		l, e := oid.Parse(s)
		if text, f := oid.Text(l); e != api.OK || f != api.OK || text != s {
			t.Error(s, l, e, text, f)
		}
	}
	if l, _ := oid.Parse("1.2.840"); !slices.Equal(l, []uint64{1, 2, 840}) {
		t.Error(l)
	}
	for _, s := range []string{"", "3.1", "0.40", "1", "1.02", "01.2", "1.2.", ".1.2", "1..2", "1.2.a", "1.2.+3", "1.2.-3", " 1.2", "1.2 ", "1.2.0x3", "1.2.3_4", "1.2.00", "1,2", "1.2.9223372036854775808", "1.2.18446744073709551616", "1.2.99999999999999999999999", "2.9223372036854775728", "1.2" + strings.Repeat(".7", 19), "1.٣"} {
		if l, e := oid.Parse(s); e != api.ErrOid || l != nil {
			t.Error(s, l, e)
		}
	}
}

func TestBytesExamples(t *testing.T) {
	for _, x := range []struct {
		l   []uint64
		hex string
	}{{[]uint64{2, 100, 3}, "813403"}, {[]uint64{1, 2, 840, 113549}, "2a864886f70d"}, {[]uint64{2, 999, 3}, "883703"}, {[]uint64{0, 0}, "00"}, {[]uint64{2, 47}, "7f"}, {[]uint64{2, 48}, "8100"}, {[]uint64{1, 2, top}, "2affffffffffffffff7f"}} {
		if b, e := oid.Bytes(x.l); e != api.OK || hex.EncodeToString(b) != x.hex {
			t.Errorf("%v: %x %v", x.l, b, e)
		}
	}
}

func TestReadWrong(t *testing.T) {
	for _, s := range []string{"2a8001", "2a86", "", "80", "8001", "7f80", "2aff", "2a81808080808080808000", "2aff8080808080808080807f", "ffffffffffffffff7f01ff", "81808080808080808000", "2a828080808080808080807f"} {
		b, _ := hex.DecodeString(s)
		l, e := oid.Read(b)
		if e != api.ErrOid || l != nil {
			t.Error(s, l, e)
		}
	}
	if l, e := oid.Read([]byte{0x2a}); e != api.OK || !slices.Equal(l, []uint64{1, 2}) {
		t.Error(l, e)
	}
	if l, e := oid.Read(make([]byte, 20)); e != api.ErrOid || l != nil {
		t.Error("more numbers than may be", l, e)
	}
	if l, e := oid.Read(make([]byte, 19)); e != api.OK || len(l) != 20 {
		t.Error(l, e)
	}
}

func TestAgainstModel(t *testing.T) {
	r := rand.New(rand.NewSource(1))
	for range 5000 {
		l := []uint64{uint64(r.Intn(3)), uint64(r.Intn(40))}
		for range r.Intn(19) {
			l = append(l, r.Uint64()>>(1+r.Intn(63)))
		}
		b, e := oid.Bytes(l)
		if e != api.OK || !bytes.Equal(b, model(l)) {
			t.Fatal(l, b, e)
		}
		if back, e := oid.Read(b); e != api.OK || !slices.Equal(back, l) {
			t.Fatal(l, back, e)
		}
		text, _ := oid.Text(l)
		if back, e := oid.Parse(text); e != api.OK || !slices.Equal(back, l) {
			t.Fatal(l, back, e)
		}
		turned := bytes.Clone(b)
		turned[r.Intn(len(b))] = byte(r.Intn(256))
		if back, e := oid.Read(turned); e == api.OK {
			if again, e := oid.Bytes(back); e != api.OK || !bytes.Equal(again, turned) {
				t.Fatal(turned, back, again, e)
			}
		} else if back != nil || e != api.ErrOid {
			t.Fatal(turned, back, e)
		}
	}
}

func TestKnown(t *testing.T) {
	table := []struct{ name, text string }{
		{"sha224", "2.16.840.1.101.3.4.2.4"}, {"sha256", "2.16.840.1.101.3.4.2.1"}, {"sha384", "2.16.840.1.101.3.4.2.2"}, {"sha512", "2.16.840.1.101.3.4.2.3"},
		{"rsa", "1.2.840.113549.1.1.1"}, {"mgf1", "1.2.840.113549.1.1.8"}, {"pss", "1.2.840.113549.1.1.10"},
		{"rsa224", "1.2.840.113549.1.1.14"}, {"rsa256", "1.2.840.113549.1.1.11"}, {"rsa384", "1.2.840.113549.1.1.12"}, {"rsa512", "1.2.840.113549.1.1.13"},
		{"data", "1.2.840.113549.1.7.1"}, {"signed", "1.2.840.113549.1.7.2"},
		{"contentType", "1.2.840.113549.1.9.3"}, {"messageDigest", "1.2.840.113549.1.9.4"}, {"signingTime", "1.2.840.113549.1.9.5"}, {"countersignature", "1.2.840.113549.1.9.6"},
		{"tstInfo", "1.2.840.113549.1.9.16.1.4"}, {"signingCertificateV2", "1.2.840.113549.1.9.16.2.47"},
		{"commonName", "2.5.4.3"}, {"countryName", "2.5.4.6"}, {"organizationName", "2.5.4.10"},
		{"keyUsage", "2.5.29.15"}, {"basicConstraints", "2.5.29.19"}, {"extKeyUsage", "2.5.29.37"}, {"timeStamping", "1.3.6.1.5.5.7.3.8"},
	}
	var names []string
	for _, x := range table {
		names = append(names, x.name)
		var want asn1.ObjectIdentifier
		l, _ := oid.Parse(x.text)
		for _, n := range l {
			want = append(want, int(n))
		}
		der, _ := asn1.Marshal(want)
		b := oid.Named(x.name)
		if !bytes.Equal(b, der[2:]) || oid.Name(b) != x.name {
			t.Errorf("%s: %x %s", x.name, b, oid.Name(b))
		}
	}
	if got := oid.Names(); !slices.Equal(got, names) {
		t.Error(got)
	}
	for _, name := range []string{"", "SHA256", "sha1", "rsa ", "tst", "emailAddress"} {
		if b := oid.Named(name); b != nil {
			t.Error(name, b)
		}
	}
	for _, s := range []string{"", "2a", "2a864886f70d0107", "2a864886f70d01070101", "2a864886f70d010781", "550404", "80"} {
		b, _ := hex.DecodeString(s)
		if name := oid.Name(b); name != "" {
			t.Error(s, name)
		}
	}
	if b, _ := hex.DecodeString("2b06010505070308"); oid.Name(b) != "timeStamping" {
		t.Error(oid.Name(b))
	}
	if b := oid.Named("data"); hex.EncodeToString(b) != "2a864886f70d010701" {
		t.Errorf("%x", b)
	}
}

func TestMemory(t *testing.T) {
	b := oid.Named("data")
	b[0] = 9
	names := oid.Names()
	names[0] = "turned"
	if oid.Named("data")[0] != 0x2a || oid.Names()[0] != "sha224" {
		t.Error("what was answered is kept")
	}
	l := []uint64{1, 2, 3}
	given, _ := oid.Bytes(l)
	back, _ := oid.Read(given)
	back[2] = 7
	if !slices.Equal(l, []uint64{1, 2, 3}) || !bytes.Equal(given, []byte{0x2a, 3}) {
		t.Error(l, given)
	}
}
