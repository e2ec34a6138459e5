package tree

import (
	"strings"
	"unicode/utf8"
)

// The tags of class Universal, counted from the first one on; those that no tree has are left out.
const (
	_ = iota
	tagBool
	tagInt
	tagBits
	tagBytes
	tagNull
	tagOid
	_
	_
	_
	tagEnum
	_
	tagUtf8
	_
	_
	_
	tagSeq
	tagSet
	_
	tagPrint
	_
	_
	tagIa5
	tagUtc
	tagTime
)

const (
	printMarks = " '()+,-./:=?"
	more       = 128 // of an identifier's byte behind which its number goes on
	century    = 1900
	turn       = 50 // short years from here on are of that century
)

// wanted is what the bytes of a tag have to be; nothing, if there are no such bytes.
func wanted(tag int) func(b []byte) bool {
	switch tag {
	case tagBool:
		return func(b []byte) bool { return len(b) == 1 && (b[0] == 0 || b[0] == 255) }
	case tagInt, tagEnum:
		return isInt
	case tagBits:
		return isBits
	case tagBytes:
		return func([]byte) bool { return true }
	case tagNull:
		return func(b []byte) bool { return len(b) == 0 }
	case tagOid:
		return isOid
	case tagUtf8:
		return utf8.Valid
	case tagPrint:
		return each(isPrint)
	case tagIa5:
		return each(func(x byte) bool { return x < 128 })
	case tagUtc:
		return isShortTime
	case tagTime:
		return isTime
	}
	return nil
}

// each asks the same of all bytes.
func each(ask func(byte) bool) func([]byte) bool {
	return func(b []byte) bool {
		for _, x := range b {
			if !ask(x) {
				return false
			}
		}
		return true
	}
}

// isInt says whether bytes are as few as can be in two's complement: nine bits alike ahead are one byte too much.
func isInt(b []byte) bool {
	if len(b) < 2 {
		return len(b) == 1
	}
	return b[0] != 0 && b[0] != 255 || b[0]>>7 != b[1]>>7
}

// isBits says whether bytes are how many bits of the last one are unused, all these being 0, and the bits.
func isBits(b []byte) bool {
	if len(b) == 0 || b[0] > 7 || len(b) == 1 && b[0] != 0 {
		return false
	}
	return len(b) == 1 || b[len(b)-1]&(1<<b[0]-1) == 0
}

// isOid says whether bytes are numbers, each of as few bytes as can be.
func isOid(b []byte) bool {
	begins := true
	for _, x := range b {
		if begins && x == more {
			return false
		}
		begins = x < more
	}
	return len(b) > 0 && begins
}

// isPrint says whether a byte may stand in a TagPrint.
func isPrint(x byte) bool {
	return x >= 'a' && x <= 'z' || x >= 'A' && x <= 'Z' || isDigit(x) || strings.IndexByte(printMarks, x) >= 0
}

func isDigit(x byte) bool { return x >= '0' && x <= '9' }

// isShortTime says whether bytes are YYMMDDhhmmssZ.
func isShortTime(b []byte) bool {
	if len(b) != 13 || b[12] != 'Z' || !each(isDigit)(b[:12]) {
		return false
	}
	year := century + two(b)
	if two(b) < turn {
		year += 100
	}
	return isMoment(year, b[2:])
}

// isTime says whether bytes are YYYYMMDDhhmmssZ, maybe with parts of a second ahead of the Z.
func isTime(b []byte) bool {
	if len(b) < 15 || b[len(b)-1] != 'Z' || !each(isDigit)(b[:14]) {
		return false
	}
	parts := b[14 : len(b)-1]
	return isMoment(100*two(b)+two(b[2:]), b[4:]) && (len(parts) == 0 || arePartsOfSecond(parts))
}

// arePartsOfSecond says whether bytes are a point and digits, the last one of which is not 0.
func arePartsOfSecond(b []byte) bool {
	return len(b) > 1 && b[0] == '.' && each(isDigit)(b[1:]) && b[len(b)-1] != '0'
}

// two is the number of two digits.
func two(b []byte) int { return 10*int(b[0]-'0') + int(b[1]-'0') }

// isMoment says whether there is such a date and time: b has the digits behind the year.
func isMoment(year int, b []byte) bool {
	month, day := two(b), two(b[2:])
	return month >= 1 && month <= 12 && day >= 1 && day <= daysOf(year, month) && two(b[4:]) < 24 && two(b[6:]) < 60 && two(b[8:]) < 60
}

// daysOf is how many days a month has.
func daysOf(year, month int) int {
	switch month {
	case 2:
		if year%4 == 0 && (year%100 != 0 || year%400 == 0) {
			return 29
		}
		return 28
	case 4, 6, 9, 11:
		return 30
	}
	return 31
}
