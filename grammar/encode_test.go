package grammar_test

import (
	"bytes"
	"math/rand/v2"
	"slices"
	"strings"
	"testing"

	"koine/api"
	"koine/diagram"
	"koine/grammar"
)

// refused fails unless Decode returns ErrForm and no grammar.
func refused(t *testing.T, what string, b []byte) {
	t.Helper()
	if g, e := grammar.Decode(b); e != api.ErrForm || !zero(g) {
		t.Fatalf("%s: Decode(%v) = %v, %v, want ErrForm", what, b, g, e)
	}
}

// encoded fails unless Encode returns the encoding of a valid grammar, and Decode the grammar again. It returns the encoding.
func encoded(t *testing.T, g api.Grammar) []byte {
	t.Helper()
	argument := copyOf(g)
	b, e := grammar.Encode(argument)
	if e != api.OK || !bytes.Equal(b, spelled(g)) {
		t.Fatalf("Encode(%v) = %v, %v, want %v", g, b, e, spelled(g))
	}
	unchanged(t, argument, g)
	given := append(slices.Clone(b), make([]byte, 8)...)
	h, e := grammar.Decode(given[:len(b)])
	if e != api.OK || !equal(h, g) || grammar.Check(h) != api.OK {
		t.Fatalf("Decode(%v) = %v, %v, want %v", b, h, e, g)
	}
	separate(t, h)
	for i := range given {
		given[i] = 255
	}
	if !equal(h, g) {
		t.Fatal("the result of Decode depends on its argument's memory")
	}
	return b
}

// simple is the encoding of the first grammar.
func simple() []byte {
	return []byte{0, 0, 1, 0, 1, 1, 'S', 1, 1, 's', 0, 0, 0, 1, 0, 1, 0, 0, 0, 0, 0, 0, 0, 0, 0}
}

// P5.1, E6: the chapter's example, and each kind of part.
func TestEncodeExamples(t *testing.T) {
	if b := encoded(t, plain()); !bytes.Equal(b, simple()) {
		t.Errorf("the encoding of the first grammar is %v", b)
	}
	g := api.Grammar{
		Conditions:   []string{"A", "Bc"},
		Family:       either(0),
		Tokens:       []api.Token{{Name: "t", Pattern: like(`[a-\xff]*`), Sample: "aa", If: is(1)}, {Name: "l", Class: api.Layout, Literal: " ", If: all()}},
		Nonterminals: []string{"S", strings.Repeat("N", 300)},
		Productions: []api.Production{{Name: "p", Left: 1, Right: []api.Symbol{aToken(0), aNonterminal(1)}, If: none(), Rank: api.Preferred,
			Layout: []api.Constraint{{Kind: 4, A: 1}}, Scope: api.Scope{Opens: true, Declares: 1, Kind: 2, Uses: 1, Allowed: 255}}},
		Start:   1,
		Levels:  []api.Level{{Productions: []int{0}, Assoc: 2, If: all()}},
		Filters: []api.Filter{{Kind: 2, At: 1, If: all()}, {Kind: 5, Tokens: []int{1}, If: is(0)}},
	}
	want := []byte{2, 1, 'A', 2, 'B', 'c',
		2, 1, 0, 1, 0, 2, 1, 3,
		2,
		1, 't', 0, 0, 2, 1, 'a', 255, 1, 0, 0, 4, 0, 0, 0, 0, 2, 'a', 'a', 1, 1, 0, 1, 2,
		1, 'l', 1, 1, ' ', 0, 0, 0, 1,
		2, 1, 'S', 0xac, 2}
	want = append(want, strings.Repeat("N", 300)...)
	want = append(want, 1,
		1, 'p', 1, 2, 1, 0, 0, 1, 0, 0, 0, 2, 1, 4, 1, 0, 1, 1, 2, 1, 255, 1,
		1,
		1, 1, 0, 2, 0, 1,
		2,
		2, 0, 1, 0, 0, 0, 0, 0, 1,
		5, 0, 0, 0, 0, 0, 1, 1, 1, 0, 0, 1, 2)
	if b := encoded(t, g); !bytes.Equal(b, want) {
		t.Errorf("the encoding is\n%v, want\n%v", b, want)
	}
	encoded(t, rich())
}

// P5.1, P5.4, E6, R6: random grammars, and the order of fields as package api declares them.
func TestEncodeRandom(t *testing.T) {
	r := rand.New(rand.NewPCG(5, 9))
	for range 2000 {
		encoded(t, randomGrammar(r, r.IntN(6)))
	}
	for range 5 {
		encoded(t, randomGrammar(r, 64))
	}
}

// P5.1, P5.4, E6: grammars at the limits, and sets with many branches.
func TestEncodeLarge(t *testing.T) {
	g := rich()
	for _, d := range limits(0) {
		d.apply(&g)
	}
	family := none()
	for i := range 11 {
		family = sure(diagram.Or(family, sure(diagram.And(is(i), is(50+i)))))
	}
	g.Family, g.Tokens[0].If, g.Productions[0].If, g.Levels[0].If, g.Filters[0].If = family, family, family, family, family
	b := encoded(t, g)
	refused(t, "a prefix", b[:len(b)-1])
	refused(t, "a continuation", append(slices.Clone(b), 0))
}

// P5.4: no proper beginning and no continuation of an encoding is one.
func TestDecodePrefix(t *testing.T) {
	r := rand.New(rand.NewPCG(5, 10))
	for i := range 40 {
		g := rich()
		switch {
		case i == 1:
			g = plain()
		case i > 1:
			g = randomGrammar(r, r.IntN(4))
		}
		b := encoded(t, g)
		for n := range b {
			refused(t, "a beginning", b[:n])
		}
		for x := range 256 {
			refused(t, "a continuation", append(slices.Clone(b), byte(x)))
		}
		refused(t, "twice", append(slices.Clone(b), b...))
	}
}

// damaged returns bytes with a random change.
func damaged(r *rand.Rand, b []byte) []byte {
	b = slices.Clone(b)
	i := r.IntN(len(b))
	switch r.IntN(6) {
	case 0:
		b[i] ^= 1 << r.IntN(8)
	case 1:
		b[i] = byte(r.IntN(4))
	case 2:
		b = slices.Insert(b, i, byte(r.IntN(3)))
	case 3:
		b = slices.Delete(b, i, i+1)
	case 4: // the same number, if it is one, with a group too many
		b[i] |= 128
		b = slices.Insert(b, i+1, 0)
	case 5:
		b[i] += byte(r.IntN(3)) - 1
	}
	return b
}

// P5.1, P5.4, E6: Decode accepts exactly the encodings of valid grammars.
func TestDecodeRandom(t *testing.T) {
	r := rand.New(rand.NewPCG(5, 11))
	accepted, changed := 0, 0
	for range 300 {
		g := randomGrammar(r, r.IntN(4))
		b := spelled(g)
		for range 100 {
			x := damaged(r, b)
			for range r.IntN(2) {
				x = damaged(r, x)
			}
			want, ok := guessed(x)
			if !ok {
				refused(t, "damaged", x)
				continue
			}
			accepted++
			h, e := grammar.Decode(x)
			if e != api.OK || !equal(h, want) {
				t.Fatalf("Decode(%v) = %v, %v, want %v", x, h, e, want)
			}
			if again, e := grammar.Encode(h); e != api.OK || !bytes.Equal(again, x) {
				t.Fatalf("Encode(Decode(%v)) = %v, %v", x, again, e)
			}
			if !equal(h, g) {
				changed++
			}
		}
	}
	if changed < 500 || accepted > 25000 {
		t.Errorf("%d accepted, %d of them changed", accepted, changed)
	}
}

// P5.1, E6: bytes that are no encoding by themselves, each for a reason of its own.
func TestDecodeBroken(t *testing.T) {
	b := simple()
	if _, e := grammar.Decode(b); e != api.OK {
		t.Fatalf("the encoding of the first grammar: %v", e)
	}
	with := func(at int, x ...byte) []byte { return slices.Concat(b[:at], x, b[at+1:]) }
	refused(t, "nil", nil)
	refused(t, "empty", []byte{})
	for i := range b {
		if i != 6 && i != 9 { // the bytes of the names
			refused(t, "a number with a group too many", with(i, b[i]|128, 0))
			refused(t, "a number with two groups too many", with(i, b[i]|128, 128, 0))
			refused(t, "a number without an end", with(i, 255))
		}
	}
	const bracket, rank, opens = 14, 15, 17
	for _, at := range []int{bracket, opens} {
		for _, x := range []byte{2, 3, 127} {
			refused(t, "a bool that is none", with(at, x))
		}
		refused(t, "a long bool", with(at, 129, 1))
	}
	for x := range byte(3) {
		if g, e := grammar.Decode(with(rank, x)); e != api.OK || g.Productions[0].Rank != int(x)-1 {
			t.Errorf("the rank %d: %v, %v", x, g, e)
		}
	}
	refused(t, "a rank that is none", with(rank, 3))
	if g, e := grammar.Decode(with(opens, 1)); e != api.OK || !g.Productions[0].Scope.Opens {
		t.Errorf("a scope that opens: %v, %v", g, e)
	}
	refused(t, "a family that is empty", with(2, 0))
	refused(t, "a family that is no set", with(2, 2))
	refused(t, "a start that is no index", with(22, 1))
}

// P5.1, E6, R1: counts and numbers far beyond what the bytes can hold.
func TestDecodeHuge(t *testing.T) {
	b := simple()
	for i := range b {
		for n := range 12 {
			for _, last := range []byte{1, 2, 0x3f, 0x40, 0x7f, 0xff} {
				for _, group := range []byte{0x80, 0xff} {
					long := append(bytes.Repeat([]byte{group}, n), last)
					x := slices.Concat(b[:i], long, b[i+1:])
					if _, ok := guessed(x); !ok {
						refused(t, "huge", x)
					}
					x = slices.Concat(b[:i], long)
					if _, ok := guessed(x); !ok {
						refused(t, "huge, at the end", x)
					}
				}
			}
		}
	}
	for _, x := range []byte{0, 1, 127, 128, 255} {
		refused(t, "many equal bytes", bytes.Repeat([]byte{x}, 1<<20))
	}
	// The number 2^64, as 64 bits have it, is the 0 that stands there in an encoding.
	refused(t, "a number beyond 64 bits", slices.Concat([]byte{128, 128, 128, 128, 128, 128, 128, 128, 128, 2}, b[1:]))
}

// P5.1, E6: the encoding of a grammar that is not valid, or beyond a limit, is refused with ErrForm, and Encode returns the error of Check.
func TestDecodeInvalid(t *testing.T) {
	for _, d := range limits(1) {
		g := rich()
		d.apply(&g)
		refused(t, d.what, spelled(g))
	}
	r := rand.New(rand.NewPCG(5, 12))
	for range 2000 {
		g := randomGrammar(r, r.IntN(4))
		mutate(r, &g)
		want := first(g)
		if want == api.OK {
			encoded(t, g)
			continue
		}
		refused(t, "not valid", spelled(g))
		if b, e := grammar.Encode(g); e != want || len(b) > 0 {
			t.Fatalf("Encode(%v) = %v, %v, want %v", g, b, e, want)
		}
	}
}
