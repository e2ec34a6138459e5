package whole_test

import (
	"bytes"
	"math/rand"
	"testing"

	"postmark/api"
	"postmark/desk"
	"postmark/disk"
	"postmark/mask"
	"postmark/query"
	"postmark/reply"
	"postmark/sample"
	"postmark/token"
	"postmark/tree"
)

// someOffice is an office by chance.
func someOffice(r *rand.Rand) api.Office {
	o := sample.Office(sample.Small())
	o.Seal.Way = api.Way(1 + r.Intn(2))
	o.Seal.Hash = api.Hash(1 + r.Intn(2))
	o.Ordering = r.Intn(2) == 0
	if r.Intn(2) == 0 {
		o.Exact, o.Accuracy = false, api.Accuracy{}
	}
	o.Policies = o.Policies[r.Intn(2):]
	o.Hashes = []api.Hash{api.Sha256, api.Hash(1 + r.Intn(4))}
	o.First = r.Int63n(1000)
	if r.Intn(5) == 0 {
		o.First = api.MaxSerial - r.Int63n(10)
	}
	return o
}

// someQuery is a query by chance, which may be wrong for an office.
func someQuery(r *rand.Rand) api.Query {
	q := sample.Query()
	if r.Intn(3) == 0 {
		q.Imprint.Hash = api.Hash(1 + r.Intn(4))
		q.Imprint.Digest = make([]byte, mask.Size(q.Imprint.Hash))
		r.Read(q.Imprint.Digest)
	}
	if r.Intn(2) == 0 {
		q.Policy = []byte{0x2a, byte(3 + r.Intn(3))}
	}
	if r.Intn(2) == 0 {
		q.Nonce = []byte{byte(1 + r.Intn(127)), byte(r.Intn(256))}
	}
	q.Cert = r.Intn(2) == 0
	if r.Intn(8) == 0 {
		q.Exts = []api.Ext{{Oid: []byte{0x2a}}}
	}
	return q
}

// stamped is the model's reply to a query that is granted.
func stamped(t *testing.T, o api.Office, q api.Query, serial, at int64, salt []byte) []byte {
	t.Helper()
	x := api.Tst{Policy: q.Policy, Imprint: q.Imprint, Serial: tree.Int(serial).Bytes, Time: at, Exact: o.Exact, Accuracy: o.Accuracy, Ordering: o.Ordering, Nonce: q.Nonce}
	if len(q.Policy) == 0 {
		x.Policy = o.Policies[0]
	}
	o.Seal.With = q.Cert
	full := make([]byte, mask.Size(o.Seal.Hash))
	copy(full, salt)
	made, e := token.Make(x, o.Seal, full)
	if e != api.OK {
		t.Fatal(e)
	}
	b, e := reply.Write(reply.Granted(made))
	if e != api.OK {
		t.Fatal(e)
	}
	return b
}

// refused is the model's reply by a fail.
func refused(fail int) []byte {
	b, _ := reply.Write(reply.Refused(fail))
	return b
}

// TestReplies is P0.1: scripts are answered byte by byte as by a model that has the last serial, the last time and how much room there is, and in which a crash lets the serial go on by one at most.
func TestReplies(t *testing.T) {
	r := rand.New(rand.NewSource(1))
	granted, crashed, kept := 0, 0, 0
	for range 25 {
		o := someOffice(r)
		room := 5 + r.Intn(40)
		d, _ := disk.New(2+r.Intn(3), room)
		x, e := desk.New(o, d)
		if e != api.OK {
			t.Fatal(e)
		}
		serial, at, grantedLast, grantedAt := o.First, int64(0), o.First, int64(0)
		for range 40 {
			if r.Intn(6) == 0 {
				d.Arm(1+r.Intn(4), []byte{byte(r.Intn(80))})
			}
			q, clock := someQuery(r), r.Int63n(100000)-500
			salt := make([]byte, r.Intn(40))
			r.Read(salt)
			b, _ := query.Write(q)
			_, fail := query.Judge(b, o.Hashes, o.Policies)
			if fail == api.FailNone && clock < 0 {
				fail = api.FailTime
			}
			full := room == 0
			got := x.Ask(b, clock, salt)
			if fail == api.FailNone && serial < api.MaxSerial && !full {
				room--
			}
			switch {
			case fail != api.FailNone:
				if !bytes.Equal(got, refused(fail)) {
					t.Fatal(fail)
				}
			case serial == api.MaxSerial || full || !d.Up():
				if !bytes.Equal(got, refused(api.FailSystem)) {
					t.Fatal("not the system's failure")
				}
			default:
				serial, at = serial+1, max(at, clock)
				if !bytes.Equal(got, stamped(t, o, q, serial, at, salt)) {
					t.Fatal("another reply than the model's")
				}
				if serial <= grantedLast || at < grantedAt {
					t.Fatal("serials that do not rise, or times that fall")
				}
				grantedLast, grantedAt = serial, at
				granted++
			}
			if d.Room() != room {
				t.Fatal(d.Room(), room)
			}
			if d.Up() {
				continue
			}
			if x.Open() || x.Recover() != api.OK {
				t.Fatal("found down, and open")
			}
			crashed++
			s, a := x.Last()
			switch {
			case s == serial+1 && a == max(at, clock):
				serial, at = s, a
				kept++
			case s != serial || a != at:
				t.Fatal(s, a, serial, at)
			}
		}
	}
	if granted < 100 || crashed < 50 || kept < 5 {
		t.Error("few of a kind", granted, crashed, kept)
	}
}

// TestRefusals is P0.5: what is malformed, unsupported or disallowed is rejected with its fail and without a token, and what is kept stays as it was.
func TestRefusals(t *testing.T) {
	r := rand.New(rand.NewSource(5))
	o := sample.Office(sample.Small())
	d, _ := disk.New(2, 100)
	x, _ := desk.New(o, d)
	first, _ := query.Write(sample.Query())
	x.Ask(first, 7000, nil)
	seen := map[int]int{}
	for range 3000 {
		b, _ := query.Write(someQuery(r))
		for range r.Intn(2) {
			b[r.Intn(len(b))] = byte(r.Intn(256))
		}
		clock := int64(8000)
		if r.Intn(10) == 0 {
			clock = -1
		}
		_, fail := query.Judge(b, o.Hashes, o.Policies)
		if fail == api.FailNone && clock < 0 {
			fail = api.FailTime
		}
		if fail == api.FailNone {
			continue
		}
		seen[fail]++
		before := d.Copy()
		answer, e := reply.Open(x.Ask(b, clock, nil))
		if e != api.OK || !reply.Same(answer, reply.Refused(fail)) {
			t.Fatal(answer, fail, e)
		}
		if s, a := x.Last(); s != 42 || a != 7000 || !x.Open() || d.Room() != before.Room() || d.Waits() != 0 {
			t.Fatal(s, a)
		}
		for at := range 2 {
			was, _ := before.Read(at)
			if is, _ := d.Read(at); !bytes.Equal(is, was) {
				t.Fatal("what is kept is turned")
			}
		}
	}
	for _, fail := range []int{api.FailAlg, api.FailRequest, api.FailData, api.FailTime, api.FailPolicy, api.FailExt} {
		if seen[fail] == 0 {
			t.Error("none of a fail", fail)
		}
	}
}
