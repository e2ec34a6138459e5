package console_test

import (
	"bytes"
	"math/rand"
	"slices"
	"strings"
	"testing"

	"postmark/api"
	"postmark/check"
	"postmark/console"
	"postmark/desk"
	"postmark/disk"
	"postmark/octet"
	"postmark/query"
	"postmark/reply"
	"postmark/sample"
	"postmark/token"
)

var (
	digest = strings.Repeat("ab", 32)
	salt   = strings.Repeat("06", 32)
)

// keyLine is the line that sets a key.
func keyLine(k api.Key) string {
	return "key " + octet.Hex(k.N) + " " + octet.Hex(k.E) + " " + octet.Hex(k.D)
}

// setting are the lines of an office that may be, whose first serial is 41.
func setting() []string {
	return []string{keyLine(sample.Small()), "who authority", "serial 1234", "dates 1000 4102444800000", "stamps yes", "policy 1.2.3", "takes sha256", "exact 1 500 0", "ordering yes", "first 41"}
}

// opened is a console with such an office, a disk with so much room, and a desk.
func opened(t *testing.T, room string) *console.Console {
	t.Helper()
	c := console.New()
	for _, s := range append(setting(), "disk 2 "+room, "open", "ask sha256 "+digest) {
		says(t, c, s, "ok")
	}
	return c
}

// says asks a line, and looks at its answer.
func says(t *testing.T, c *console.Console, line string, want ...string) {
	t.Helper()
	if got := c.Line(line); !slices.Equal(got, want) {
		t.Errorf("%.80q: %.120q, not %.120q", line, got, want)
	}
}

func TestExamples(t *testing.T) {
	c := console.New()
	for _, x := range [][2]string{{"last", "last 0"}, {"last", "last 1"}, {"open", "error 1"}, {"desk", "error 1"}, {"reply", "error 1"}, {"hash sha1", "error 300"}, {"first 01", "error 300"}, {"last", "last 1"}, {"disk 2 10", "ok"}, {"open", "error 280"}, {"ask sha256 00", "ok"}, {"request", "error 250"}} {
		says(t, c, x[0], x[1])
	}
}

// TestLines are lines that are none: they are answered so, and nothing is done.
func TestLines(t *testing.T) {
	c := opened(t, "100")
	before := c.Office()
	long := strings.Repeat("x", console.MaxLine-4)
	for _, s := range []string{
		"", " ", "  ", "last ", " last", "last  ", "serial  01", "serial 01 ", " serial 01", "serial\t01", "serial 01\n", "\nlast", "last\n", "nothing", "Last", "LAST", "last 1", "request x", "clear x", "open x", "boot x", "recover x", "desk x", "reply x", "judge x",
		"key", "key 01 02", "key 01 02 03 04", "key 01 02 3", "key 01 02 0G", "key AB 02 03", "who", "who a b", "who  a", "who " + long + "x", "serial", "serial 1", "serial 01 02", "serial xx", "serial --",
		"dates 1", "dates 1 2 3", "dates 01 2", "dates 1 -2", "dates +1 2", "dates 1 9223372036854775808", "dates 1 0x2", "dates a b", "dates 1 2.0", "dates 00 1", "stamps", "stamps maybe", "stamps Yes", "stamps yes no", "way", "way 1", "way PSS", "way pss pkcs", "hash", "hash sha1", "hash SHA256", "hash sha256 sha256",
		"policy", "policy 1", "policy 3.1", "policy 1.02", "policy 1.2 1.3", "takes", "takes md5", "exact 1 2", "exact 1 2 3 4", "exact -1 0 0", "exact 1 2 03", "ordering", "ordering 1", "first", "first -1", "first 9223372036854775808", "first x",
		"disk 2", "disk 2 3 4", "disk -1 3", "disk a 3", "ask", "ask sha256", "ask sha1 00", "ask sha256 0", "ask sha256 00 00", "nonce", "nonce 1", "want", "want x", "with", "with 1", "send", "send 1", "send 1 2", "send -1 -", "send 1 - -", "raw", "raw 00", "raw 00 -1", "raw 0 1", "crash", "crash 1", "arm", "arm 1", "arm -1 -", "arm 1 0", "recover -",
		long + "12345", "last" + strings.Repeat(" ", 2),
	} {
		says(t, c, s, "error 300")
		says(t, c, "last", "last 1")
	}
	if !sameOffice(c.Office(), before) {
		t.Error("a line that is none does something")
	}
	says(t, c, "desk", "desk open 41 0")
	if console.MaxLine != 4000 {
		t.Error(console.MaxLine)
	}
	says(t, c, "who "+long, "ok")
	if got := c.Office().Seal.Cert.Subject[0].Text; got != long {
		t.Error(len(got))
	}
}

// sameOffice says whether two offices are told alike.
func sameOffice(a, b api.Office) bool {
	same := bytes.Equal(a.Seal.Key.N, b.Seal.Key.N) && bytes.Equal(a.Seal.Key.E, b.Seal.Key.E) && bytes.Equal(a.Seal.Key.D, b.Seal.Key.D) && a.Seal.Hash == b.Seal.Hash && a.Seal.Way == b.Seal.Way && a.Seal.With == b.Seal.With && sameCert(a.Seal.Cert, b.Seal.Cert)
	return same && slices.EqualFunc(a.Policies, b.Policies, bytes.Equal) && slices.Equal(a.Hashes, b.Hashes) && a.Exact == b.Exact && a.Accuracy == b.Accuracy && a.Ordering == b.Ordering && a.First == b.First
}

func sameCert(a, b api.Cert) bool {
	exts := slices.EqualFunc(a.Exts, b.Exts, func(x, y api.Ext) bool {
		return bytes.Equal(x.Oid, y.Oid) && x.Critical == y.Critical && bytes.Equal(x.Value, y.Value)
	})
	return exts && bytes.Equal(a.Serial, b.Serial) && a.Way == b.Way && a.Hash == b.Hash && slices.Equal(a.Issuer, b.Issuer) && slices.Equal(a.Subject, b.Subject) && a.From == b.From && a.To == b.To && bytes.Equal(a.Key.N, b.Key.N) && bytes.Equal(a.Key.E, b.Key.E) && bytes.Equal(a.Key.D, b.Key.D) && bytes.Equal(a.Sig, b.Sig)
}

func blank() api.Office {
	return api.Office{Seal: api.Seal{Way: api.Pss, Hash: api.Sha256, Cert: api.Cert{Way: api.Pkcs, Hash: api.Sha256}}}
}

// TestOffice sets each part of the office by itself.
func TestOffice(t *testing.T) {
	k := sample.Small()
	who := api.Name{{Kind: api.RdnCommon, Text: "a*b", Print: true}}
	for i, x := range []struct {
		lines []string
		turn  func(o *api.Office)
	}{
		{nil, func(o *api.Office) {}},
		{[]string{keyLine(k)}, func(o *api.Office) { o.Seal.Key, o.Seal.Cert.Key = k, api.Key{N: k.N, E: k.E} }}, {[]string{keyLine(k), "key - 03 -"}, func(o *api.Office) {
			o.Seal.Key, o.Seal.Cert.Key = api.Key{E: []byte{3}}, api.Key{E: []byte{3}}
		}},
		{[]string{"who a*b"}, func(o *api.Office) { o.Seal.Cert.Issuer, o.Seal.Cert.Subject = who, who }}, {[]string{"serial 00ff"}, func(o *api.Office) { o.Seal.Cert.Serial = []byte{0, 255} }}, {[]string{"serial 01", "serial -"}, func(o *api.Office) {}}, {[]string{"dates 0 9223372036854775807"}, func(o *api.Office) { o.Seal.Cert.From, o.Seal.Cert.To = 0, 1<<63-1 }}, {[]string{"dates 5 4"}, func(o *api.Office) { o.Seal.Cert.From, o.Seal.Cert.To = 5, 4 }},
		{[]string{"stamps yes"}, func(o *api.Office) { o.Seal.Cert.Exts = []api.Ext{sample.Stamping()} }}, {[]string{"stamps yes", "stamps yes"}, func(o *api.Office) { o.Seal.Cert.Exts = []api.Ext{sample.Stamping()} }}, {[]string{"stamps yes", "stamps no"}, func(o *api.Office) {}}, {[]string{"way pkcs"}, func(o *api.Office) { o.Seal.Way = api.Pkcs }}, {[]string{"way pkcs", "way pss"}, func(o *api.Office) {}}, {[]string{"hash sha512"}, func(o *api.Office) { o.Seal.Hash = api.Sha512 }}, {[]string{"hash sha224"}, func(o *api.Office) { o.Seal.Hash = api.Sha224 }},
		{[]string{"policy 1.2.3", "policy 2.999"}, func(o *api.Office) { o.Policies = [][]byte{{0x2a, 3}, {0x88, 0x37}} }}, {[]string{"takes sha384", "takes sha384", "takes sha224"}, func(o *api.Office) { o.Hashes = []api.Hash{3, 3, 1} }}, {[]string{"exact 1 2 3"}, func(o *api.Office) { o.Exact, o.Accuracy = true, api.Accuracy{Seconds: 1, Millis: 2, Micros: 3} }}, {[]string{"exact 0 0 5000"}, func(o *api.Office) { o.Exact, o.Accuracy = true, api.Accuracy{Micros: 5000} }}, {[]string{"exact 1 2 3", "exact 0 0 0"}, func(o *api.Office) {}}, {[]string{"ordering yes"}, func(o *api.Office) { o.Ordering = true }}, {[]string{"ordering yes", "ordering no"}, func(o *api.Office) {}}, {[]string{"first 9223372036854775807"}, func(o *api.Office) { o.First = 1<<63 - 1 }}, {[]string{"first 7", "first 0"}, func(o *api.Office) {}},
		{append(setting(), "way pkcs", "hash sha224", "clear"), func(o *api.Office) {}},
	} {
		c := console.New()
		for _, s := range x.lines {
			says(t, c, s, "ok")
		}
		want := blank()
		x.turn(&want)
		if got := c.Office(); !sameOffice(got, want) {
			t.Errorf("%d: %+v", i, got)
		}
	}
}

func TestQuery(t *testing.T) {
	c := console.New()
	same := func(q api.Query) {
		t.Helper()
		got := c.Query()
		if got.Imprint.Hash != q.Imprint.Hash || got.Imprint.Null != q.Imprint.Null || !bytes.Equal(got.Imprint.Digest, q.Imprint.Digest) || !bytes.Equal(got.Policy, q.Policy) || !bytes.Equal(got.Nonce, q.Nonce) || got.Cert != q.Cert || len(got.Exts) != 0 {
			t.Errorf("%+v", got)
		}
	}
	same(api.Query{})
	says(t, c, "request", "error 250")
	says(t, c, "nonce 0081", "ok")
	says(t, c, "want 1.2.3", "ok")
	says(t, c, "with yes", "ok")
	same(api.Query{Nonce: []byte{0, 129}, Policy: []byte{0x2a, 3}, Cert: true})
	says(t, c, "ask sha256 "+digest, "ok")
	same(sample.Query())
	b, _ := query.Write(sample.Query())
	says(t, c, "request", "request "+octet.Hex(b))
	says(t, c, "nonce 0081", "ok")
	says(t, c, "want 1.2.4", "ok")
	says(t, c, "with yes", "ok")
	q := sample.Query()
	q.Nonce, q.Policy, q.Cert = []byte{0, 129}, []byte{0x2a, 4}, true
	same(q)
	b, _ = query.Write(q)
	says(t, c, "request", "request "+octet.Hex(b))
	says(t, c, "nonce -", "ok")
	says(t, c, "with no", "ok")
	q.Nonce, q.Cert = nil, false
	same(q)
	says(t, c, "nonce 0001", "ok")
	says(t, c, "request", "error 250")
	says(t, c, "ask sha512 -", "ok")
	same(api.Query{Imprint: api.Imprint{Hash: api.Sha512, Null: true}})
	says(t, c, "clear", "ok")
	same(api.Query{Imprint: api.Imprint{Hash: api.Sha512, Null: true}})
}

// TestSession plays an authority's day, beside a desk that is asked the same.
func TestSession(t *testing.T) {
	c := opened(t, "100")
	d, _ := disk.New(2, 100)
	o := c.Office()
	x, e := desk.New(o, d)
	if e != api.OK {
		t.Fatal(e)
	}
	same := func(want []byte) {
		t.Helper()
		if !bytes.Equal(c.Reply(), want) {
			t.Errorf("%x", c.Reply())
		}
		says(t, c, "reply", "reply "+octet.Hex(want))
	}
	b, _ := query.Write(sample.Query())
	if c.Reply() != nil {
		t.Error("a reply ahead of any")
	}
	says(t, c, "judge", "error 1")
	says(t, c, "desk", "desk open 41 0")
	says(t, c, "send 5000 "+salt, "granted 42 5000")
	same(x.Ask(b, 5000, sample.Bytes(salt)))
	says(t, c, "judge", "fine 42 5000")
	says(t, c, "send 4000 -", "granted 43 5000")
	same(x.Ask(b, 4000, nil))
	says(t, c, "send 253402300800000 -", "refused time")
	same(x.Ask(b, api.MaxTime+1, nil))
	says(t, c, "judge", "wrong status")
	says(t, c, "raw - 5000", "refused data")
	same(x.Ask(nil, 5000, nil))
	if hex := octet.Hex(c.Reply()); hex != "3009300702010203020204" {
		t.Error(hex)
	}
	says(t, c, "raw "+octet.Hex(b)+" 6000", "granted 44 6000")
	same(x.Ask(b, 6000, nil))
	says(t, c, "want 1.2.9", "ok")
	says(t, c, "judge", "wrong policy")
	says(t, c, "send 7000 -", "refused policy")
	says(t, c, "ask sha384 "+strings.Repeat("00", 48), "ok")
	says(t, c, "send 7000 -", "refused alg")
	says(t, c, "ask sha256 00", "ok")
	says(t, c, "send 7000 -", "error 250")
	says(t, c, "judge", "wrong status")
	says(t, c, "ask sha256 "+digest, "ok")
	says(t, c, "with yes", "ok")
	says(t, c, "nonce 05", "ok")
	says(t, c, "want 1.2.3", "ok")
	says(t, c, "send 8000 "+salt, "granted 45 8000")
	says(t, c, "judge", "fine 45 8000")
	says(t, c, "nonce 06", "ok")
	says(t, c, "judge", "wrong nonce")
	says(t, c, "ask sha256 "+strings.Repeat("00", 32), "ok")
	says(t, c, "judge", "wrong imprint")
	says(t, c, "serial 01", "ok")
	says(t, c, "judge", "wrong source")
	r, _ := reply.Open(c.Reply())
	if stamp, _, e := token.Open(r.Token); e != api.OK || !bytes.Equal(stamp.Nonce, []byte{5}) {
		t.Error(e)
	}
	says(t, c, "desk", "desk open 45 8000")
	says(t, c, "crash -", "ok")
	says(t, c, "crash -", "error 171")
	says(t, c, "desk", "desk open 45 8000")
	says(t, c, "ask sha256 "+digest, "ok")
	says(t, c, "send 9000 -", "refused system")
	says(t, c, "desk", "desk shut 45 8000")
	says(t, c, "boot", "ok")
	says(t, c, "send 9000 -", "refused system")
	says(t, c, "recover", "ok")
	says(t, c, "send 9000 -", "granted 46 9000")
	says(t, c, "arm 2 40", "ok")
	says(t, c, "send 10000 -", "refused system")
	says(t, c, "desk", "desk shut 46 9000")
	says(t, c, "recover", "ok")
	says(t, c, "desk", "desk open 47 10000")
	says(t, c, "send 9500 -", "granted 48 10000")
	says(t, c, "arm 1 3b", "ok")
	says(t, c, "send 11000 -", "refused system")
	says(t, c, "recover", "ok")
	says(t, c, "send 11000 -", "granted 49 11000")
	says(t, c, "arm 0 -", "error 2")
}

// TestNothing: lines that ask for a disk, a desk or a reply, where there is none.
func TestNothing(t *testing.T) {
	c := console.New()
	for _, s := range []string{"open", "crash 00", "arm 1 00", "arm 0 -", "boot", "send 1 -", "raw 00 1", "recover", "desk", "reply", "judge"} {
		says(t, c, s, "error 1")
	}
	says(t, c, "disk 0 5", "error 170")
	says(t, c, "disk 65 5", "error 170")
	says(t, c, "disk 2 10001", "error 170")
	says(t, c, "disk 9223372036854775807 5", "error 170")
	says(t, c, "boot", "error 1")
	says(t, c, "disk 1 5", "ok")
	for _, s := range []string{"send 1 -", "raw 00 1", "recover", "desk"} {
		says(t, c, s, "error 1")
	}
	for _, s := range setting() {
		says(t, c, s, "ok")
	}
	says(t, c, "open", "error 170")
	says(t, c, "desk", "error 1")
	says(t, c, "disk 2 5", "ok")
	says(t, c, "crash -", "ok")
	says(t, c, "open", "error 171")
	says(t, c, "boot", "ok")
	says(t, c, "open", "ok")
	says(t, c, "desk", "desk open 41 0")
}

// TestOpenAgain: what can't be opened leaves what there was, a new disk does not.
func TestOpenAgain(t *testing.T) {
	c := opened(t, "100")
	says(t, c, "send 5000 -", "granted 42 5000")
	says(t, c, "clear", "ok")
	says(t, c, "open", "error 280")
	says(t, c, "desk", "desk open 42 5000")
	says(t, c, "send 5000 -", "granted 43 5000")
	for _, s := range setting() {
		says(t, c, s, "ok")
	}
	says(t, c, "first 7", "ok")
	says(t, c, "open", "ok")
	says(t, c, "desk", "desk open 43 5000")
	says(t, c, "disk 99 1", "error 170")
	says(t, c, "desk", "desk open 43 5000")
	says(t, c, "disk 2 1", "ok")
	says(t, c, "desk", "error 1")
	says(t, c, "judge", "fine 43 5000")
	says(t, c, "open", "ok")
	says(t, c, "send 5000 -", "granted 8 5000")
	says(t, c, "send 5000 -", "refused system")
	says(t, c, "first 9223372036854775807", "ok")
	says(t, c, "disk 2 9", "ok")
	says(t, c, "open", "ok")
	says(t, c, "send 5000 -", "refused system")
	says(t, c, "desk", "desk open 9223372036854775807 0")
	says(t, c, "first 9223372036854775806", "ok")
	says(t, c, "open", "ok")
	says(t, c, "send 5000 -", "granted 9223372036854775807 5000")
}

func TestRun(t *testing.T) {
	for _, x := range []struct {
		text string
		want []string
	}{
		{"", nil}, {"\n", []string{"error 300"}}, {"last", []string{"last 0"}}, {"last\n", []string{"last 0"}}, {"last\nlast", []string{"last 0", "last 1"}}, {"last\n\nlast\n", []string{"last 0", "error 300", "last 1"}}, {"\n\n", []string{"error 300", "error 300"}}, {"boot\nfirst 5\r\nfirst 5", []string{"error 1", "error 300", "ok"}},
	} {
		if got := console.New().Run(x.text); !slices.Equal(got, x.want) {
			t.Errorf("%q: %q", x.text, got)
		}
	}
	c := console.New()
	got := c.Run(strings.Join(append(setting(), "disk 2 9", "open", "ask sha256 "+digest, "send 5000 -", "judge"), "\n"))
	if len(got) != 15 || got[13] != "granted 42 5000" || got[14] != "fine 42 5000" {
		t.Errorf("%q", got)
	}
	if got := c.Run("last"); !slices.Equal(got, []string{"last 1"}) {
		t.Error(got)
	}
}

func TestNone(t *testing.T) {
	var none *console.Console
	for i, c := range []*console.Console{none, {}} {
		if c.Line("last") != nil || c.Run("last\nlast") != nil || c.Reply() != nil || !sameOffice(c.Office(), api.Office{}) || c.Query().Imprint.Hash != 0 {
			t.Error(i)
		}
	}
}

// TestWhatFollows: consoles answer the same lines with the same, each by itself; and what is granted is fine.
func TestWhatFollows(t *testing.T) {
	r := rand.New(rand.NewSource(1))
	a, b, other := opened(t, "500"), opened(t, "500"), opened(t, "500")
	granted := 0
	for range 150 {
		script := []string{"send " + []string{"5000", "70000", "0", "4000"}[r.Intn(4)] + " " + []string{"-", salt, "01"}[r.Intn(3)], "judge", "desk", "request", "reply", "last"}
		if r.Intn(5) == 0 {
			script = append([]string{"arm " + []string{"1", "2", "3"}[r.Intn(3)] + " " + []string{"-", "40", "3c", "07"}[r.Intn(4)]}, script...)
		}
		script = append(script, "recover", []string{"with yes", "with no", "nonce 05", "nonce -", "want 1.2.3", "ask sha256 " + digest}[r.Intn(6)])
		for _, s := range script {
			got := a.Line(s)
			if len(got) != 1 || !slices.Equal(got, b.Line(s)) {
				t.Fatalf("%q %q", s, got)
			}
			if strings.HasPrefix(got[0], "granted") {
				granted++
				want := "fine" + strings.TrimPrefix(got[0], "granted")
				stamp, e := check.Accept(a.Reply(), a.Query(), a.Office().Seal.Cert)
				if stamp.Time >= 1000 && (e != api.OK || a.Line("judge")[0] != want || b.Line("judge")[0] != want) {
					t.Fatal(want, e)
				}
			}
		}
	}
	says(t, other, "desk", "desk open 41 0")
	if granted < 50 {
		t.Error("few are granted", granted)
	}
}

func TestMemory(t *testing.T) {
	c := opened(t, "9")
	says(t, c, "send 5000 -", "granted 42 5000")
	says(t, c, "nonce 05", "ok")
	says(t, c, "want 1.2.3", "ok")
	o, q, b := c.Office(), c.Query(), c.Reply()
	for _, l := range [][]byte{o.Seal.Key.N, o.Seal.Key.E, o.Seal.Key.D, o.Seal.Cert.Key.N, o.Seal.Cert.Key.E, o.Seal.Cert.Serial, o.Seal.Cert.Exts[0].Oid, o.Seal.Cert.Exts[0].Value, o.Policies[0], q.Imprint.Digest, q.Nonce, q.Policy, b} {
		clear(l)
	}
	o.Seal.Cert.Issuer[0].Text, o.Seal.Cert.Subject[0].Text, o.Seal.Cert.Exts[0].Critical, o.Hashes[0] = "x", "y", false, 9
	o.Policies[0] = nil
	fresh := opened(t, "9")
	if !sameOffice(c.Office(), fresh.Office()) || !bytes.Equal(c.Query().Imprint.Digest, fresh.Query().Imprint.Digest) || !bytes.Equal(c.Query().Nonce, []byte{5}) || !bytes.Equal(c.Query().Policy, []byte{0x2a, 3}) {
		t.Error("what was answered is kept")
	}
	if c.Reply()[0] != 0x30 {
		t.Error("the reply is kept")
	}
	l := c.Line("last")
	l[0] = "turned"
	says(t, c, "nonce -", "ok")
	says(t, c, "judge", "fine 42 5000")
}
