// Package text is layer 1: it says which bytes of a text are meant, and in which line they stand.
package text

import (
	"strings"

	"oriel/api"
)

// lineEnd is the byte that ends a line.
const lineEnd = '\n'

// Right says whether p lies in s.
func Right(s string, p api.Span) bool {
	return 0 <= p.At && p.At <= p.End && p.End <= len(s)
}

// Part is the bytes of s that p means: a copy, lest a short part keep a long text in memory.
func Part(s string, p api.Span) (string, api.Errno) {
	if !Right(s, p) {
		return "", api.ErrRange
	}
	return strings.Clone(s[p.At:p.End]), api.OK
}

// Lines is how many lines s has.
func Lines(s string) int {
	n := 0
	cut(s, func(api.Span) bool {
		n++
		return false
	})
	return n
}

// Line is the line and the column, both from 1 on, of a place in s.
func Line(s string, at int) (int, int, api.Errno) {
	if !isPlace(s, at) {
		return 0, 0, api.ErrRange
	}
	n, line := lineAt(s, at)
	return n, at - line.At + 1, api.OK
}

// Place is the place in s of a line and a column, both from 1 on.
func Place(s string, line, col int) (int, api.Errno) {
	n, at, err := 0, 0, api.ErrRange
	cut(s, func(p api.Span) bool {
		n++
		if n == line && 1 <= col && col <= p.End-p.At+1 {
			at, err = p.At+col-1, api.OK
		}
		return n >= line
	})
	return at, err
}

// Holds says whether q begins and ends within p.
func Holds(p, q api.Span) bool {
	return p.At <= q.At && q.End <= p.End
}

// Meets says whether p and q have a byte in common.
func Meets(p, q api.Span) bool {
	// This also tells that neither is empty: the greater At is below both Ends.
	return max(p.At, q.At) < min(p.End, q.End)
}

// Cover is the least span that holds all of l; of none there is none.
func Cover(l ...api.Span) (api.Span, bool) {
	if len(l) == 0 {
		return api.Span{}, false
	}
	c := l[0]
	for _, p := range l[1:] {
		c = api.Span{At: min(c.At, p.At), End: max(c.End, p.End)}
	}
	return c, true
}

// Indent is the blanks and tabs ahead of all else in the line in which at stands.
func Indent(s string, at int) (string, api.Errno) {
	if !isPlace(s, at) {
		return "", api.ErrRange
	}
	_, line := lineAt(s, at)
	end := skip(s, line, func(b byte) bool { return b == ' ' || b == '\t' })
	return Part(s, api.Span{At: line.At, End: end})
}

// isPlace says whether at is a place in s, the text's end among them.
func isPlace(s string, at int) bool {
	return Right(s, api.Span{At: at, End: at})
}

// lineAt is the number of the line of s in which the place at stands, and its bytes without the byte 10 that ends it.
func lineAt(s string, at int) (int, api.Span) {
	n, line := 0, api.Span{}
	cut(s, func(p api.Span) bool {
		n, line = n+1, p
		return at <= p.End // not below it: a byte 10 belongs to the line that it ends
	})
	return n, line
}

// cut hands wanted each line's bytes, without the byte 10 that ends it, from the first line on; the first one that is wanted is the last one handed.
func cut(s string, wanted func(line api.Span) bool) {
	at := 0
lines:
	for {
		switch n := strings.IndexByte(s[at:], lineEnd); {
		case n < 0: // the text's end ends a line, too, even one without bytes
			wanted(api.Span{At: at, End: len(s)})
			break lines
		case wanted(api.Span{At: at, End: at + n}):
			break lines
		default:
			at += n + 1
		}
	}
}

// skip is where the bytes of the line end that are, from its begin on, as asked.
func skip(s string, line api.Span, asked func(b byte) bool) int {
	at := line.At
	for at < line.End && asked(s[at]) {
		at++
	}
	return at
}
