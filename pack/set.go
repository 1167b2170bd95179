package pack

import "math/bits"

// How many bits a word of a set has, how many words have a say, and the greatest member.
const (
	wordBits  = 64
	maxWords  = 1024
	maxMember = maxWords*wordBits - 1
)

// Set is a set of numbers from 0 to 65535: word n / 64 has the bit n modulo 64, if n is in it. Words that are not there are 0, those beyond the first 1024 say nothing.
type Set []uint64

// Of answers the set of those of l that may be in one.
func Of(l ...int) Set {
	var out Set
	for _, n := range l {
		out = out.added(n)
	}
	return out
}

func mayBeIn(n int) bool { return within(n, maxMember) }

func bitOf(n int) uint64 { return 1 << (n % wordBits) }

// added puts n into s, if it may be in one. Who calls owns the words of s, and goes on with those that are answered.
func (s Set) added(n int) Set {
	if !mayBeIn(n) {
		return s
	}
	if lacking := n/wordBits + 1 - len(s); lacking > 0 {
		s = append(s, make(Set, lacking)...)
	}
	s[n/wordBits] |= bitOf(n)
	return s
}

// copied answers the words of s in memory of their own.
func (s Set) copied() Set { return append(Set(nil), s...) }

// word answers word i, 0 if it is not there.
func (s Set) word(i int) uint64 {
	if i >= len(s) {
		return 0
	}
	return s[i]
}

// said answers the words of s that have a say.
func (s Set) said() Set { return s[:min(len(s), maxWords)] }

// Has tells whether n is in s.
func (s Set) Has(n int) bool { return mayBeIn(n) && s.word(n/wordBits)&bitOf(n) != 0 }

// With answers s and n.
func (s Set) With(n int) Set { return s.copied().added(n) }

// Without answers s, not with n.
func (s Set) Without(n int) Set {
	out := s.copied()
	if s.Has(n) {
		out[n/wordBits] &^= bitOf(n)
	}
	return out
}

// Join answers what is in s or in t.
func (s Set) Join(t Set) Set {
	return both(s, t, func(a, b uint64) uint64 { return a | b })
}

// Rest answers what is in s and not in t.
func (s Set) Rest(t Set) Set {
	return both(s, t, func(a, b uint64) uint64 { return a &^ b })
}

// both answers what becomes of the words of s and t, two by two.
func both(s, t Set, becomes func(a, b uint64) uint64) Set {
	out := make(Set, max(len(s.said()), len(t.said())))
	for i := range out {
		out[i] = becomes(s.word(i), t.word(i))
	}
	return out
}

// Len tells how many numbers are in s.
func (s Set) Len() int {
	n := 0
	for _, w := range s.said() {
		n += bits.OnesCount64(w)
	}
	return n
}

// List tells the numbers that are in s, rising.
func (s Set) List() []int {
	var out []int
	for i, w := range s.said() {
		for bit := range wordBits {
			if w>>bit&1 == 1 {
				out = append(out, i*wordBits+bit)
			}
		}
	}
	return out
}
