package vars

import (
	"strconv"
	"strings"

	"standish/api"
)

// teller tells the texts of variables in an environment that May allows. As such an environment has nothing but characters, its texts pass through strings unchanged.
type teller struct {
	env  api.Env
	used int // how many draws have been used
}

// text returns the text of a variable.
func (t *teller) text(v variable) string {
	index := t.env.Index
	switch v.tells {
	case selected:
		return string(t.env.Selected)
	case currentLine:
		return string(t.env.Line)
	case currentWord:
		return string(t.env.Word)
	case lineNumber:
		index++
		fallthrough
	case lineIndex:
		return strconv.Itoa(index)
	case file:
		return string(t.env.File)
	case fileBase:
		return base(string(t.env.File))
	case dir:
		return string(t.env.Dir)
	case filePath:
		return string(t.env.Dir) + "/" + string(t.env.File)
	case clipboard:
		return string(t.env.Clip)
	case random:
		return padded(t.draw()%1000000, 10, 6)
	case randomHex:
		return t.hex()
	case uuid:
		return t.uuid()
	}
	return clockText(v.tells, t.env.Clock[v.part])
}

// base returns the name of a file up to its last period. A period that begins the name belongs to it.
func base(name string) string {
	if end := strings.LastIndex(name, "."); end > 0 {
		return name[:end]
	}
	return name
}

// clockText returns what is told of a part of the clock that has the number n.
func clockText(tells, n int) string {
	switch tells {
	case fourDigits:
		return padded(n, 10, 4)
	case lastDigits:
		n %= 100
		fallthrough
	case twoDigits:
		return padded(n, 10, 2)
	case monthName:
		return months[n-1]
	case monthShort:
		return months[n-1][:3]
	case dayName:
		return days[n]
	}
	return days[n][:3]
}

// padded writes n with leading zeros. It has no more digits than asked for.
func padded(n, radix, digits int) string {
	s := strconv.FormatInt(int64(n), radix)
	return strings.Repeat("0", digits-len(s)) + s
}

// draw takes the next draw, which is 0 if it does not exist.
func (t *teller) draw() int {
	at := t.used
	t.used++
	if at >= len(t.env.Draws) {
		return 0
	}
	return t.env.Draws[at]
}

// hex takes the next draw, in hexadecimal digits.
func (t *teller) hex() string {
	return padded(t.draw(), 16, 6)
}

// uuid takes the next five draws.
func (t *teller) uuid() string {
	digits := ""
	for range 5 {
		digits += t.hex()
	}
	return digits[:8] + "-" + digits[8:12] + "-4" + digits[12:15] + "-8" + digits[15:18] + "-" + digits[18:]
}
