package console

import (
	"bytes"
	"strconv"

	"postmark/api"
	"postmark/check"
	"postmark/desk"
	"postmark/disk"
	"postmark/octet"
	"postmark/oid"
	"postmark/query"
	"postmark/reply"
	"postmark/token"
	"postmark/tree"
)

const constructed = 32 // of a sequence's first byte

// find is the order of a word, if there is one.
func (c *Console) find(word string) (order, bool) {
	o, there := c.ofOffice(word)
	if !there {
		o, there = c.ofQuery(word)
	}
	if !there {
		o, there = c.ofDisk(word)
	}
	return o, there
}

// ofOffice is the order of a word that is about the office.
func (c *Console) ofOffice(word string) (order, bool) {
	switch word {
	case "key":
		return sets(c.setKey, octets, octets, octets), true
	case "who":
		return sets(c.setWho, text), true
	case "serial":
		return sets(c.setSerial, octets), true
	case "dates":
		return sets(c.setDates, number, number), true
	case "stamps":
		return sets(c.setStamps, yesOrNo), true
	case "way":
		return sets(c.setWay, way), true
	case "hash":
		return sets(c.setHash, hash), true
	case "policy":
		return sets(c.addPolicy, identifier), true
	case "takes":
		return sets(c.addHash, hash), true
	case "exact":
		return sets(c.setExact, number, number, number), true
	case "ordering":
		return sets(c.setOrdering, yesOrNo), true
	case "first":
		return sets(c.setFirst, number), true
	case "clear":
		return sets(c.clearOffice), true
	}
	return order{}, false
}

// ofQuery is the order of a word that is about the query, or the reply.
func (c *Console) ofQuery(word string) (order, bool) {
	switch word {
	case "ask":
		return sets(c.setQuery, hash, octets), true
	case "nonce":
		return sets(c.setNonce, octets), true
	case "want":
		return sets(c.setWant, identifier), true
	case "with":
		return sets(c.setWith, yesOrNo), true
	case "request":
		return tells(c.request), true
	case "send":
		return tells(c.send, number, octets), true
	case "raw":
		return tells(c.raw, octets, number), true
	case "reply":
		return tells(c.tellReply), true
	case "judge":
		return tells(c.judge), true
	}
	return order{}, false
}

// ofDisk is the order of a word that is about the disk, the desk, or the console itself.
func (c *Console) ofDisk(word string) (order, bool) {
	switch word {
	case "disk":
		return tries(c.newDisk, number, number), true
	case "open":
		return tries(c.open), true
	case "crash":
		return tries(c.crash, octets), true
	case "arm":
		return tries(c.arm, number, octets), true
	case "boot":
		return tries(c.boot), true
	case "recover":
		return tries(c.reopen), true
	case "desk":
		return tells(c.tellDesk), true
	case "last":
		return tells(c.last), true
	}
	return order{}, false
}

func (c *Console) setKey(l []value) {
	s := &c.office.Seal
	s.Key = api.Key{N: l[0].bytes, E: l[1].bytes, D: l[2].bytes}
	s.Cert.Key = api.Key{N: bytes.Clone(l[0].bytes), E: bytes.Clone(l[1].bytes)}
}

func (c *Console) setWho(l []value) {
	name := func() api.Name { return api.Name{{Kind: api.RdnCommon, Text: l[0].text, Print: true}} }
	c.office.Seal.Cert.Issuer, c.office.Seal.Cert.Subject = name(), name()
}

func (c *Console) setSerial(l []value) { c.office.Seal.Cert.Serial = l[0].bytes }

func (c *Console) setDates(l []value) {
	c.office.Seal.Cert.From, c.office.Seal.Cert.To = l[0].number, l[1].number
}

func (c *Console) setStamps(l []value) {
	c.office.Seal.Cert.Exts = nil
	if !l[0].yes {
		return
	}
	id := oid.Named("timeStamping")
	size := byte(len(id))
	// The DER of a sequence of that identifier alone.
	purpose := octet.Join([]byte{api.TagSeq | constructed, size + 2, api.TagOid, size}, id)
	c.office.Seal.Cert.Exts = []api.Ext{{Oid: oid.Named("extKeyUsage"), Critical: true, Value: purpose}}
}

func (c *Console) setWay(l []value) { c.office.Seal.Way = l[0].way }

func (c *Console) setHash(l []value) { c.office.Seal.Hash = l[0].hash }

func (c *Console) addPolicy(l []value) {
	c.office.Policies = append(c.office.Policies, l[0].bytes)
}

func (c *Console) addHash(l []value) { c.office.Hashes = append(c.office.Hashes, l[0].hash) }

func (c *Console) setExact(l []value) {
	a := api.Accuracy{Seconds: int(l[0].number), Millis: int(l[1].number), Micros: int(l[2].number)}
	c.office.Accuracy, c.office.Exact = a, a != api.Accuracy{}
}

func (c *Console) setOrdering(l []value) { c.office.Ordering = l[0].yes }

func (c *Console) setFirst(l []value) { c.office.First = l[0].number }

func (c *Console) clearOffice([]value) { c.office = blank() }

func (c *Console) setQuery(l []value) {
	c.query = api.Query{Imprint: api.Imprint{Hash: l[0].hash, Null: true, Digest: l[1].bytes}}
}

func (c *Console) setNonce(l []value) { c.query.Nonce = l[0].bytes }

func (c *Console) setWant(l []value) { c.query.Policy = l[0].bytes }

func (c *Console) setWith(l []value) { c.query.Cert = l[0].yes }

func (c *Console) request([]value) string {
	b, e := query.Write(c.query)
	if e != api.OK {
		return failed(e)
	}
	return say("request", shown(b))
}

func (c *Console) send(l []value) string {
	if c.desk == nil {
		return failed(api.ErrNil)
	}
	b, e := query.Write(c.query)
	if e != api.OK {
		return failed(e)
	}
	return c.asked(b, l[0].number, l[1].bytes)
}

func (c *Console) raw(l []value) string {
	if c.desk == nil {
		return failed(api.ErrNil)
	}
	return c.asked(l[0].bytes, l[1].number, nil)
}

// asked asks the desk, and tells what its reply says.
func (c *Console) asked(b []byte, clock int64, salt []byte) string {
	c.reply = c.desk.Ask(b, clock, salt)
	r, _ := reply.Open(c.reply)
	if r.Status != api.StatusGranted {
		return say("refused", query.Reason(r.Fail))
	}
	stamp, _, _ := token.Open(r.Token)
	return stamped("granted", stamp)
}

// stamped is a word, and a stamp's serial and time.
func stamped(word string, x api.Tst) string {
	serial, _ := tree.AsInt(tree.Prim(api.Universal, api.TagInt, x.Serial))
	return say(word, digits(serial), digits(x.Time))
}

func (c *Console) tellReply([]value) string {
	if c.reply == nil {
		return failed(api.ErrNil)
	}
	return say("reply", shown(c.reply))
}

func (c *Console) judge([]value) string {
	if c.reply == nil {
		return failed(api.ErrNil)
	}
	stamp, e := check.Accept(c.reply, c.query, c.office.Seal.Cert)
	if e != api.OK {
		return say("wrong", check.Reason(e))
	}
	return stamped("fine", stamp)
}

func (c *Console) newDisk(l []value) api.Errno {
	d, e := disk.New(int(l[0].number), int(l[1].number))
	if e != api.OK {
		return e
	}
	c.disk, c.desk = d, nil
	return api.OK
}

func (c *Console) open([]value) api.Errno {
	if c.disk == nil {
		return api.ErrNil
	}
	x, e := desk.New(c.office, c.disk)
	if e == api.OK {
		c.desk = x
	}
	return e
}

// A disk, or a desk, that there is not says so by itself.

func (c *Console) crash(l []value) api.Errno { return c.disk.Crash(l[0].bytes) }

func (c *Console) arm(l []value) api.Errno { return c.disk.Arm(int(l[0].number), l[1].bytes) }

func (c *Console) boot([]value) api.Errno { return c.disk.Boot() }

func (c *Console) reopen([]value) api.Errno { return c.desk.Recover() }

func (c *Console) tellDesk([]value) string {
	if c.desk == nil {
		return failed(api.ErrNil)
	}
	state := "shut"
	if c.desk.Open() {
		state = "open"
	}
	serial, at := c.desk.Last()
	return say("desk", state, digits(serial), digits(at))
}

func (c *Console) last([]value) string { return say("last", strconv.Itoa(c.answered)) }
