package console

import (
	"iter"
	"strconv"
	"strings"

	"postmark/api"
	"postmark/mask"
	"postmark/octet"
	"postmark/oid"
)

const (
	blankByte = " "
	noBytes   = "-"
)

// lines are answers, one a line.
func lines(l ...string) []string { return l }

// say is a line of words.
func say(words ...string) string { return strings.Join(words, blankByte) }

// failed is what an error is answered.
func failed(e api.Errno) string { return say("error", strconv.Itoa(int(e))) }

// done is what is answered to what was tried.
func done(e api.Errno) string {
	if e != api.OK {
		return failed(e)
	}
	return "ok"
}

// digits is a number's text.
func digits(n int64) string { return strconv.FormatInt(n, 10) }

// shown are bytes as they are told.
func shown(b []byte) string {
	if len(b) == 0 {
		return noBytes
	}
	return octet.Hex(b)
}

// told tells the words between a line's blanks: nothing, where two blanks stand together, or one at an end.
func told(s string) iter.Seq[string] {
	return func(yield func(string) bool) {
		for {
			word, rest, more := strings.Cut(s, blankByte)
			if !yield(word) || !more {
				return
			}
			s = rest
		}
	}
}

// split are a line's words, if it has the form of one.
func split(s string) ([]string, bool) {
	if len(s) > MaxLine || strings.Contains(s, "\n") {
		return nil, false
	}
	var l []string
	fine := true
splitting:
	for word := range told(s) {
		if word == "" {
			fine = false
			break splitting
		}
		l = append(l, word)
	}
	return l, fine
}

// value is what a word stands for, in the one field that its reading sets.
type value struct {
	text   string
	number int64
	bytes  []byte
	hash   api.Hash
	way    api.Way
	yes    bool
}

// reading is how a word is read, and whether it can be.
type reading func(word string) (value, bool)

func text(word string) (value, bool) { return value{text: word}, true }

func number(word string) (value, bool) {
	n, err := strconv.ParseInt(word, 10, 64)
	// Told again, it shows whether the digits were as few as can be, and whether a sign stood ahead.
	return value{number: n}, err == nil && n >= 0 && digits(n) == word
}

func octets(word string) (value, bool) {
	if word == noBytes {
		return value{}, true
	}
	b, e := octet.Unhex(word)
	return value{bytes: b}, e == api.OK
}

func hash(word string) (value, bool) {
	h := mask.Named(word)
	return value{hash: h}, h != 0
}

func identifier(word string) (value, bool) {
	l, e := oid.Parse(word)
	if e != api.OK {
		return value{}, false
	}
	b, e := oid.Bytes(l)
	return value{bytes: b}, e == api.OK
}

func yesOrNo(word string) (value, bool) {
	return value{yes: word == "yes"}, word == "yes" || word == "no"
}

func way(word string) (value, bool) {
	switch word {
	case "pkcs":
		return value{way: api.Pkcs}, true
	case "pss":
		return value{way: api.Pss}, true
	}
	return value{}, false
}

// order is what a line's first word says: how the words behind it are read, and what is done with them and answered.
type order struct {
	wants []reading
	do    func([]value) string
}

// read is what the words behind an order's stand for.
func (o order) read(words []string) ([]value, bool) {
	if len(words) != len(o.wants) {
		return nil, false
	}
	var l []value
	for i, want := range o.wants {
		v, fine := want(words[i])
		if !fine {
			return nil, false
		}
		l = append(l, v)
	}
	return l, true
}

// sets is the order of a line that sets something.
func sets(set func([]value), wants ...reading) order {
	return order{wants, func(l []value) string {
		set(l)
		return "ok"
	}}
}

// tries is the order of a line that tries something.
func tries(try func([]value) api.Errno, wants ...reading) order {
	return order{wants, func(l []value) string { return done(try(l)) }}
}

// tells is the order of a line that is answered more.
func tells(tell func([]value) string, wants ...reading) order { return order{wants, tell} }
