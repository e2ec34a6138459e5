package desk_test

import (
	"bytes"
	"math"
	"math/rand"
	"testing"

	"postmark/api"
	"postmark/cert"
	"postmark/cms"
	"postmark/der"
	"postmark/desk"
	"postmark/disk"
	"postmark/query"
	"postmark/reply"
	"postmark/sample"
	"postmark/slot"
	"postmark/token"
	"postmark/tree"
)

var salt = bytes.Repeat([]byte{8}, 32)

func fresh(t *testing.T, room int) *disk.Disk {
	t.Helper()
	d, e := disk.New(2, room)
	if e != api.OK {
		t.Fatal(e)
	}
	return d
}

func opened(t *testing.T, o api.Office, d *disk.Disk) *desk.Desk {
	t.Helper()
	x, e := desk.New(o, d)
	if e != api.OK || !x.Open() {
		t.Fatal(e)
	}
	return x
}

func request(t *testing.T, q api.Query) []byte {
	t.Helper()
	b, e := query.Write(q)
	if e != api.OK {
		t.Fatal(e)
	}
	return b
}

func refusal(fail int) []byte {
	b, _ := reply.Write(reply.Refused(fail))
	return b
}

// grant is what is answered of a query that is granted.
func grant(t *testing.T, o api.Office, q api.Query, serial, at int64, salt []byte) []byte {
	t.Helper()
	x := api.Tst{Policy: q.Policy, Imprint: q.Imprint, Serial: tree.Int(serial).Bytes, Time: at, Exact: o.Exact, Accuracy: o.Accuracy, Ordering: o.Ordering, Nonce: q.Nonce}
	if len(x.Policy) == 0 {
		x.Policy = o.Policies[0]
	}
	o.Seal.With = q.Cert
	made, e := token.Make(x, o.Seal, salt)
	if e != api.OK {
		t.Fatal(e)
	}
	b, e := reply.Write(reply.Granted(made))
	if e != api.OK {
		t.Fatal(e)
	}
	return b
}

func last(t *testing.T, x *desk.Desk, serial, at int64, open bool) {
	t.Helper()
	if s, a := x.Last(); s != serial || a != at || x.Open() != open {
		t.Error(s, a, x.Open())
	}
}

// TestCheck goes through what keeps an office from being.
func TestCheck(t *testing.T) {
	public := sample.Small()
	public.D = nil
	for i, x := range []struct {
		turn func(o *api.Office)
		fine bool
	}{
		{func(o *api.Office) {}, true}, {func(o *api.Office) { *o = api.Office{} }, false}, {func(o *api.Office) { o.Seal.With = false }, true}, {func(o *api.Office) { o.Seal.Cert.Serial = nil }, false}, {func(o *api.Office) { o.Seal.Cert.Exts = nil }, false}, {func(o *api.Office) { o.Seal.Cert.Exts[0].Critical = false }, false}, {func(o *api.Office) { o.Seal.Cert.Exts = o.Seal.Cert.Exts[:1] }, true}, {func(o *api.Office) { o.Seal.Cert.Sig = make([]byte, 9000) }, false}, {func(o *api.Office) { o.Seal.Cert.Sig = make([]byte, 70000) }, false},
		{func(o *api.Office) { o.Seal.Key = api.Key{} }, false}, {func(o *api.Office) { o.Seal.Key = public }, false}, {func(o *api.Office) { o.Seal.Key = sample.Large() }, false}, {func(o *api.Office) { o.Seal.Cert.Key = api.Key{N: sample.Large().N, E: []byte{3}} }, false}, {func(o *api.Office) { o.Seal.Key.E = []byte{3} }, false}, {func(o *api.Office) { o.Seal.Key.D = []byte{1} }, true}, {func(o *api.Office) { o.Seal.Key.N, o.Seal.Cert.Key.N = []byte{9}, []byte{9} }, false},
		{func(o *api.Office) { o.Seal.Way = 0 }, false}, {func(o *api.Office) { o.Seal.Way = api.Pkcs }, true}, {func(o *api.Office) { o.Seal.Hash = api.Sha384 }, false}, {func(o *api.Office) { o.Seal.Hash = api.Sha224 }, true}, {func(o *api.Office) { o.Seal.Hash = 0 }, false}, {func(o *api.Office) {
			o.Seal = sample.Seal(sample.Large())
			o.Seal.Hash = api.Sha512
		}, true},
		{func(o *api.Office) { o.Policies = nil }, false}, {func(o *api.Office) { o.Policies, o.Hashes = o.Policies[:1], o.Hashes[:1] }, true}, {func(o *api.Office) { o.Policies = [][]byte{{0x80}} }, false}, {func(o *api.Office) { o.Policies = append(o.Policies, nil) }, false}, {func(o *api.Office) { o.Policies = [][]byte{{1}, {1}, {1}, {1}, {1}, {1}, {1}, {1}, {1}, {1}} }, true}, {func(o *api.Office) { o.Policies = [][]byte{{1}, {1}, {1}, {1}, {1}, {1}, {1}, {1}, {1}, {1}, {1}} }, false},
		{func(o *api.Office) { o.Hashes = nil }, false}, {func(o *api.Office) { o.Hashes = []api.Hash{1, 1, 1, 4} }, true}, {func(o *api.Office) { o.Hashes = []api.Hash{1, 2, 3, 4, 4} }, false}, {func(o *api.Office) { o.Hashes = []api.Hash{1, 0} }, false}, {func(o *api.Office) { o.Hashes = []api.Hash{5} }, false},
		{func(o *api.Office) { o.Exact = false }, false}, {func(o *api.Office) { o.Accuracy = api.Accuracy{} }, false}, {func(o *api.Office) { o.Exact, o.Accuracy = false, api.Accuracy{} }, true}, {func(o *api.Office) { o.Accuracy.Millis = 1000 }, false}, {func(o *api.Office) { o.Accuracy = api.Accuracy{Micros: -1} }, false}, {func(o *api.Office) { o.Ordering = false }, true},
		{func(o *api.Office) { o.First = -1 }, false}, {func(o *api.Office) { o.First = math.MinInt64 }, false}, {func(o *api.Office) { o.First = 0 }, true}, {func(o *api.Office) { o.First = api.MaxSerial }, true},
	} {
		o := sample.Office(sample.Small())
		x.turn(&o)
		want := api.OK
		if !x.fine {
			want = api.ErrDesk
		}
		if e := desk.Check(o); e != want {
			t.Error(i, e)
		}
		y, e := desk.New(o, fresh(t, 9))
		if e != want || (y == nil) != (e != api.OK) {
			t.Error(i, e)
		}
		if y, e := desk.New(o, nil); y != nil || x.fine && e != api.ErrNil || !x.fine && e != api.ErrDesk {
			t.Error(i, e)
		}
	}
}

// TestLongestCert goes to where an office's certificate is as long as it may be.
func TestLongestCert(t *testing.T) {
	o := sample.Office(sample.Small())
	seen := 0
	for size := 7500; size < 8192; size++ {
		o.Seal.Cert.Sig = make([]byte, size)
		x, _ := cert.Build(o.Seal.Cert)
		n, _ := der.Size(x)
		if (desk.Check(o) == api.OK) != (n <= api.MaxCert) {
			t.Error(n)
		}
		if n == api.MaxCert || n == api.MaxCert+1 {
			seen++
		}
	}
	if seen != 2 {
		t.Error(seen)
	}
}

func TestNewWrong(t *testing.T) {
	o := sample.Office(sample.Small())
	small, _ := disk.New(1, 9)
	down := fresh(t, 9)
	down.Crash(nil)
	for i, x := range []struct {
		d *disk.Disk
		e api.Errno
	}{{nil, api.ErrNil}, {&disk.Disk{}, api.ErrNil}, {small, api.ErrDisk}, {down, api.ErrDown}} {
		if y, e := desk.New(o, x.d); y != nil || e != x.e {
			t.Error(i, e)
		}
	}
}

func TestAsk(t *testing.T) {
	o := sample.Office(sample.Large())
	o.Seal.Hash = api.Sha384
	long := bytes.Repeat([]byte{8}, 48)
	x := opened(t, o, fresh(t, 100))
	last(t, x, 41, 0, true)
	plain, whole := sample.Query(), sample.Query()
	whole.Policy, whole.Nonce, whole.Cert, whole.Imprint.Null = []byte{0x2a, 4}, []byte{0, 222}, true, false
	for i, y := range []struct {
		q          api.Query
		clock      int64
		salt, used []byte
		serial, at int64
	}{
		{plain, 5000, long, long, 42, 5000}, {plain, 4000, long, long, 43, 5000}, {whole, 6000, append(bytes.Clone(long), 1, 2, 3), long, 44, 6000}, {whole, 0, nil, make([]byte, 48), 45, 6000}, {plain, api.MaxTime, []byte{1, 2}, append([]byte{1, 2}, make([]byte, 46)...), 46, api.MaxTime}, {plain, 7000, long, long, 47, api.MaxTime},
	} {
		b := x.Ask(request(t, y.q), y.clock, y.salt)
		if !bytes.Equal(b, grant(t, o, y.q, y.serial, y.at, y.used)) {
			t.Error(i)
		}
		last(t, x, y.serial, y.at, true)
		r, e := reply.Open(b)
		stamp, data, f := token.Open(r.Token)
		if e != api.OK || f != api.OK || (len(data.Certs) == 1) != y.q.Cert || !cms.Verify(data, o.Seal.Key) || len(stamp.Exts) != 0 || len(stamp.Tsa) != 0 {
			t.Error(i, e, f)
		}
	}
}

// TestRefusals are the rows, each ahead of those behind it; what is refused by the first two changes nothing.
func TestRefusals(t *testing.T) {
	o := sample.Office(sample.Small())
	d := fresh(t, 100)
	x := opened(t, o, d)
	turned := func(turn func(q *api.Query)) []byte {
		q := sample.Query()
		turn(&q)
		return request(t, q)
	}
	good := request(t, sample.Query())
	version := bytes.Clone(good)
	version[4] = 2
	none := turned(func(q *api.Query) { q.Imprint = api.Imprint{Hash: api.Sha224, Digest: make([]byte, 28)} })
	policy := turned(func(q *api.Query) { q.Policy = []byte{0x2a, 5} })
	ext := turned(func(q *api.Query) { q.Exts = []api.Ext{{Oid: []byte{1}}} })
	for i, y := range []struct {
		b     []byte
		clock int64
		fail  int
	}{{nil, 5000, api.FailData}, {nil, -1, api.FailData}, {good[:len(good)-1], 5000, api.FailData}, {version, 5000, api.FailRequest}, {none, 5000, api.FailAlg}, {none, -1, api.FailAlg}, {policy, 5000, api.FailPolicy}, {ext, 5000, api.FailExt}, {good, -1, api.FailTime}, {good, math.MinInt64, api.FailTime}, {good, api.MaxTime + 1, api.FailTime}, {good, math.MaxInt64, api.FailTime}} {
		if b := x.Ask(y.b, y.clock, salt); !bytes.Equal(b, refusal(y.fail)) {
			t.Errorf("%d: %x", i, b)
		}
		last(t, x, 41, 0, true)
	}
	if d.Room() != 100 || d.Waits() != 0 {
		t.Error("a refusal writes")
	}
	d.Crash(nil)
	for i, y := range []struct {
		b     []byte
		clock int64
		fail  int
	}{{nil, 5000, api.FailData}, {good, -1, api.FailTime}} {
		if b := x.Ask(y.b, y.clock, salt); !bytes.Equal(b, refusal(y.fail)) || !x.Open() {
			t.Error(i, "the disk was looked for")
		}
	}
	if b := x.Ask(good, 5000, salt); !bytes.Equal(b, refusal(api.FailSystem)) {
		t.Errorf("%x", b)
	}
	last(t, x, 41, 0, false)
	d.Boot()
	if b := x.Ask(good, 5000, salt); !bytes.Equal(b, refusal(api.FailSystem)) || d.Room() != 100 {
		t.Error("a desk that is not open asks its diary")
	}
	if b := x.Ask(nil, 5000, salt); !bytes.Equal(b, refusal(api.FailData)) {
		t.Errorf("%x", b)
	}
	if e := x.Recover(); e != api.OK {
		t.Error(e)
	}
	if b := x.Ask(good, 5000, salt); !bytes.Equal(b, grant(t, o, sample.Query(), 42, 5000, salt)) {
		t.Errorf("%x", b)
	}
}

func TestFullAndNoSerial(t *testing.T) {
	o := sample.Office(sample.Small())
	good := request(t, sample.Query())
	x := opened(t, o, fresh(t, 1))
	x.Ask(good, 5000, salt)
	if b := x.Ask(good, 6000, salt); !bytes.Equal(b, refusal(api.FailSystem)) {
		t.Errorf("%x", b)
	}
	last(t, x, 42, 5000, true)
	o.First = api.MaxSerial - 1
	x = opened(t, o, fresh(t, 9))
	if b := x.Ask(good, 5000, salt); !bytes.Equal(b, grant(t, o, sample.Query(), api.MaxSerial, 5000, salt)) {
		t.Errorf("%x", b)
	}
	if b := x.Ask(good, 5000, salt); !bytes.Equal(b, refusal(api.FailSystem)) {
		t.Errorf("%x", b)
	}
	last(t, x, api.MaxSerial, 5000, true)
}

// TestLongest: where a token, or its reply, would be longer than may be, the system's failure is answered.
func TestLongest(t *testing.T) {
	o := sample.Office(sample.Small())
	good := request(t, sample.Query())
	granted, failed := 0, 0
	for size := 65536 - 900; size < 65536; size += 3 {
		o.Policies = [][]byte{bytes.Repeat([]byte{1}, size)}
		b := opened(t, o, fresh(t, 9)).Ask(good, 5000, salt)
		r, e := reply.Open(b)
		switch {
		case e == api.OK && r.Status == api.StatusGranted && failed == 0:
			granted++
		case bytes.Equal(b, refusal(api.FailSystem)):
			failed++
		default:
			t.Fatal(size, e)
		}
	}
	if granted == 0 || failed == 0 {
		t.Error(granted, failed)
	}
}

func TestRecover(t *testing.T) {
	o := sample.Office(sample.Small())
	good := request(t, sample.Query())
	for _, kept := range []byte{0, 59, 60, 64} {
		for steps := 1; steps <= 2; steps++ {
			d := fresh(t, 100)
			x := opened(t, o, d)
			x.Ask(good, 1000, salt)
			d.Arm(steps, []byte{kept})
			if b := x.Ask(good, 2000, salt); !bytes.Equal(b, refusal(api.FailSystem)) {
				t.Errorf("%x", b)
			}
			last(t, x, 42, 1000, false)
			if e := x.Recover(); e != api.OK {
				t.Error(e)
			}
			serial, at := int64(42), int64(1000)
			if kept >= 60 {
				serial, at = 43, 2000
			}
			last(t, x, serial, at, true)
			if b := x.Ask(good, 1500, salt); !bytes.Equal(b, grant(t, o, sample.Query(), serial+1, max(at, 1500), salt)) {
				t.Errorf("%d %d: %x", kept, steps, b)
			}
		}
	}
	y := opened(t, o, fresh(t, 9))
	if e := y.Recover(); e != api.OK || !y.Open() {
		t.Error("a desk that is open recovers", e)
	}
	last(t, y, 41, 0, true)
	// A disk whose record is none of a diary's keeps the desk shut, and what it had is told on.
	one := fresh(t, 100)
	z := opened(t, o, one)
	z.Ask(good, 1000, salt)
	one.Write(0, foreign())
	one.Flush()
	if e := z.Recover(); e != api.ErrDiary {
		t.Error(e)
	}
	last(t, z, 42, 1000, false)
	if b := z.Ask(good, 1000, salt); !bytes.Equal(b, refusal(api.FailSystem)) {
		t.Errorf("%x", b)
	}
}

// foreign is the sector of a record of a greater number that is no diary's.
func foreign() []byte {
	b, _ := slot.Encode(api.Record{N: 9, Data: bytes.Repeat([]byte{255}, api.MaxContent)})
	return b
}

func TestNone(t *testing.T) {
	var none *desk.Desk
	for i, x := range []*desk.Desk{none, {}} {
		if b := x.Ask(nil, 1, nil); b != nil || x.Open() || x.Recover() != api.ErrNil {
			t.Error(i)
		}
		last(t, x, 0, 0, false)
	}
}

// TestWhatFollows asks, crashes and recovers by chance, beside a desk that is not asked what is refused.
func TestWhatFollows(t *testing.T) {
	r := rand.New(rand.NewSource(1))
	o := sample.Office(sample.Small())
	o.Seal.Way = api.Pkcs
	good := request(t, sample.Query())
	bad := request(t, api.Query{Imprint: api.Imprint{Hash: api.Sha224, Digest: make([]byte, 28)}})
	for range 20 {
		d, e := fresh(t, 60), fresh(t, 60)
		x, y := opened(t, o, d), opened(t, o, e)
		lastSerial, lastAt, crashes := int64(41), int64(0), int64(0)
		for range 40 {
			if r.Intn(3) == 0 {
				steps, choice := 1+r.Intn(3), []byte{byte(r.Intn(80))}
				d.Arm(steps, choice)
				e.Arm(steps, choice)
			}
			for range r.Intn(3) {
				x.Ask(bad, r.Int63n(9000), nil)
				x.Ask(good, -1, nil)
				x.Ask(good[1:], 5, nil)
			}
			clock := r.Int63n(100000)
			b := x.Ask(good, clock, nil)
			if c := y.Ask(good, clock, nil); !bytes.Equal(b, c) {
				t.Fatal("what is refused changes what is granted")
			}
			answer, _ := reply.Open(b)
			if answer.Status != api.StatusGranted {
				if d.Room() > 0 && d.Up() || answer.Fail != api.FailSystem {
					t.Fatal(answer)
				}
				if !d.Up() {
					crashes++
					x.Recover()
					y.Recover()
				}
				continue
			}
			stamp, _, _ := token.Open(answer.Token)
			serial, _ := tree.AsInt(tree.Prim(0, 2, stamp.Serial))
			if serial <= lastSerial || serial-lastSerial-1 > crashes || stamp.Time < lastAt || stamp.Time < clock {
				t.Fatal(serial, lastSerial, crashes, stamp.Time, lastAt, clock)
			}
			lastSerial, lastAt, crashes = serial, stamp.Time, 0
		}
	}
}

func TestMemory(t *testing.T) {
	o := sample.Office(sample.Small())
	x := opened(t, o, fresh(t, 100))
	good := request(t, sample.Query())
	for _, b := range [][]byte{o.Policies[0], o.Seal.Key.N, o.Seal.Key.E, o.Seal.Key.D, o.Seal.Cert.Serial, o.Seal.Cert.Key.N, o.Seal.Cert.Exts[0].Oid, o.Seal.Cert.Exts[0].Value, o.Seal.Cert.Sig} {
		clear(b)
	}
	o.Hashes[0], o.Seal.Cert.Issuer[0].Text, o.Seal.Cert.Exts[1].Critical = 9, "x", false
	o.Policies[1] = nil
	first := x.Ask(good, 5, salt)
	if !bytes.Equal(first, grant(t, sample.Office(sample.Small()), sample.Query(), 42, 5, salt)) {
		t.Error("what was handed in is kept")
	}
	clear(first)
	if !bytes.Equal(x.Ask(good, 5, salt), grant(t, sample.Office(sample.Small()), sample.Query(), 43, 5, salt)) || !bytes.Equal(good, request(t, sample.Query())) || salt[0] != 8 {
		t.Error("what was answered is kept, or what was handed in turned")
	}
}
