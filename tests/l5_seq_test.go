package tests

import (
	"math"
	"slices"
	"strings"
	"testing"

	"loop.example/townland/impl"
)

// letterPt is a point for each letter; some letters have one X, and others one Y, so that both are to be asked.
func letterPt(letter rune) impl.Pt {
	n := int(letter - 'a')
	return pt(n%5, n/5)
}

// rowOf is a row of a point for each letter.
func rowOf(letters string) []impl.Pt {
	var row []impl.Pt
	for _, letter := range letters {
		row = append(row, letterPt(letter))
	}
	return row
}

func lettersOf(row []impl.Pt) string {
	text := ""
	for _, p := range row {
		text += string(rune('a' + p.X + 5*p.Y))
	}
	return text
}

// rowsUpTo are all rows of at most that many of these letters.
func rowsUpTo(most int, letters string) []string {
	rows := []string{""}
	last := rows
	for range most {
		var longer []string
		for _, r := range last {
			for _, letter := range letters {
				longer = append(longer, r+string(letter))
			}
		}
		rows = append(rows, longer...)
		last = longer
	}
	return rows
}

// mixedRows are that many rows of 0 to 12 points of few letters, always the same ones.
func mixedRows(count int, letters int) []string {
	state := uint32(letters)
	next := func(below int) int {
		state = state*1664525 + 1013904223
		return int(state>>16) % below
	}
	var rows []string
	for range count {
		text := ""
		for range next(13) {
			text += string(rune('a' + next(letters)))
		}
		rows = append(rows, text)
	}
	return rows
}

// comesOf says whether a row comes of another one by leaving out points.
func comesOf(row []impl.Pt, of []impl.Pt) bool {
	for _, p := range of {
		if len(row) > 0 && row[0] == p {
			row = row[1:]
		}
	}
	return len(row) == 0
}

// wantedLong tries every way to leave out points of the first row.
func wantedLong(a []impl.Pt, b []impl.Pt) int {
	most := 0
	for kept := range 1 << len(a) {
		var row []impl.Pt
		for i, p := range a {
			if kept&(1<<i) != 0 {
				row = append(row, p)
			}
		}
		if len(row) > most && comesOf(row, b) {
			most = len(row)
		}
	}
	return most
}

func wantedPairs(a []impl.Pt, b []impl.Pt) []impl.Pair {
	var pairs []impl.Pair
	i, k := 0, 0
	for i < len(a) && k < len(b) {
		if a[i] == b[k] {
			pairs = append(pairs, impl.Pair{A: i, B: k})
			i, k = i+1, k+1
		} else if wantedLong(a[i+1:], b[k:]) >= wantedLong(a[i:], b[k+1:]) {
			i++
		} else {
			k++
		}
	}
	return pairs
}

// wantedPieces are the pieces of a row ahead of, between and behind these places.
func wantedPieces(row []impl.Pt, places []int) [][]impl.Pt {
	var pieces [][]impl.Pt
	from := 0
	for _, at := range append(slices.Clone(places), len(row)) {
		pieces = append(pieces, row[from:at])
		from = at + 1
	}
	return pieces
}

// wantedMerge is told by the pairs that are given, of base with each of the two hands.
func wantedMerge(base []impl.Pt, a []impl.Pt, b []impl.Pt, ofA []impl.Pair, ofB []impl.Pair) ([]impl.Pt, bool) {
	var stayBase, stayA, stayB []int
	for _, p := range ofA {
		for _, q := range ofB {
			if p.A == q.A {
				stayBase, stayA, stayB = append(stayBase, p.A), append(stayA, p.B), append(stayB, q.B)
			}
		}
	}
	piecesA, piecesB := wantedPieces(a, stayA), wantedPieces(b, stayB)
	var merged []impl.Pt
	for i, was := range wantedPieces(base, stayBase) {
		switch {
		case slices.Equal(piecesA[i], was):
			merged = append(merged, piecesB[i]...)
		case slices.Equal(piecesB[i], was) || slices.Equal(piecesA[i], piecesB[i]):
			merged = append(merged, piecesA[i]...)
		default:
			return nil, false
		}
		if i < len(stayBase) {
			merged = append(merged, base[stayBase[i]])
		}
	}
	return merged, true
}

// mergeText is the letters of what comes of three rows, or "clash".
func mergeText(t *testing.T, base string, a string, b string) string {
	t.Helper()
	row, ok := impl.SeqMerge(rowOf(base), rowOf(a), rowOf(b))
	if !ok && len(row) != 0 {
		t.Errorf("%q %q %q: beside false %v", base, a, b, row)
	}
	if !ok {
		return "clash"
	}
	return lettersOf(row)
}

func TestSeqLongLiterals(t *testing.T) {
	cases := []struct {
		a, b string
		want int
	}{
		{"", "", 0},
		{"a", "", 0},
		{"abcdefghijkl", "", 0},
		{"a", "a", 1},
		{"b", "g", 0}, // one X
		{"a", "b", 0}, // one Y
		{"abcd", "efgh", 0},
		{"abcd", "xbdy", 2},
		{"abcdef", "abcdef", 6},
		{"abcdef", "fedcba", 1},
		{"aaaa", "aa", 2},
		{"abab", "baba", 3},
		{"aabb", "abab", 3},
		{"abcabc", "cbacba", 3},
		{"abcdefghijkl", "abcdefghijkl", 12},
		{"aaaaaaaaaaaa", "aaaaaaaaaaaa", 12},
		{"aaaaaaaaaaaa", "a", 1},
		{"abcdefghijkl", "lkjihgfedcba", 1},
		{"bacadaeafaga", "aaaaaa", 6},
	}
	for _, c := range cases {
		if n := impl.SeqLong(rowOf(c.a), rowOf(c.b)); n != c.want {
			t.Errorf("%q %q: %d, not %d", c.a, c.b, n, c.want)
		}
		if n := impl.SeqLong(rowOf(c.b), rowOf(c.a)); n != c.want {
			t.Errorf("%q %q: %d, not %d", c.b, c.a, n, c.want)
		}
	}
}

func TestSeqPairsLiterals(t *testing.T) {
	cases := []struct {
		a, b string
		want []impl.Pair
	}{
		{"", "", nil},
		{"abc", "", nil},
		{"", "abc", nil},
		{"abc", "def", nil},
		{"abc", "abc", []impl.Pair{{A: 0, B: 0}, {A: 1, B: 1}, {A: 2, B: 2}}},
		{"abcd", "bxd", []impl.Pair{{A: 1, B: 0}, {A: 3, B: 2}}},
		{"bxd", "abcd", []impl.Pair{{A: 0, B: 1}, {A: 2, B: 3}}},
		// Both ways are as good: the first row goes on.
		{"ab", "ba", []impl.Pair{{A: 1, B: 0}}},
		{"ba", "ab", []impl.Pair{{A: 1, B: 0}}},
		{"abc", "cba", []impl.Pair{{A: 2, B: 0}}},
		{"xab", "yba", []impl.Pair{{A: 2, B: 1}}},
		{"abcd", "cdab", []impl.Pair{{A: 2, B: 0}, {A: 3, B: 1}}},
		// The other way is better: the second row goes on.
		{"abc", "cab", []impl.Pair{{A: 0, B: 1}, {A: 1, B: 2}}},
		{"bc", "abc", []impl.Pair{{A: 0, B: 1}, {A: 1, B: 2}}},
		// A point that comes twice is taken where it comes first, unless more are one otherwise.
		{"aa", "a", []impl.Pair{{A: 0, B: 0}}},
		{"a", "aa", []impl.Pair{{A: 0, B: 0}}},
		{"aba", "a", []impl.Pair{{A: 0, B: 0}}},
		{"aa", "aa", []impl.Pair{{A: 0, B: 0}, {A: 1, B: 1}}},
		{"aba", "ba", []impl.Pair{{A: 1, B: 0}, {A: 2, B: 1}}},
		{"ba", "aba", []impl.Pair{{A: 0, B: 1}, {A: 1, B: 2}}},
		{"abab", "baba", []impl.Pair{{A: 1, B: 0}, {A: 2, B: 1}, {A: 3, B: 2}}},
		{"aabb", "bbaa", []impl.Pair{{A: 2, B: 0}, {A: 3, B: 1}}},
		// Two that are one are a pair at once, also where as many are one without it.
		{"abac", "aac", []impl.Pair{{A: 0, B: 0}, {A: 2, B: 1}, {A: 3, B: 2}}},
		{"acab", "ab", []impl.Pair{{A: 0, B: 0}, {A: 3, B: 1}}},
		{"ab", "acab", []impl.Pair{{A: 0, B: 0}, {A: 1, B: 3}}},
	}
	for _, c := range cases {
		if p := impl.SeqPairs(rowOf(c.a), rowOf(c.b)); !slices.Equal(p, c.want) {
			t.Errorf("%q %q: %v, not %v", c.a, c.b, p, c.want)
		}
	}
}

// pairsAscend says whether both places ascend, and each pair is of one point.
func pairsAscend(a []impl.Pt, b []impl.Pt, pairs []impl.Pair) bool {
	last := impl.Pair{A: -1, B: -1}
	for _, p := range pairs {
		if p.A <= last.A || p.B <= last.B || p.A >= len(a) || p.B >= len(b) || a[p.A] != b[p.B] {
			return false
		}
		last = p
	}
	return true
}

func holdPairs(t *testing.T, first string, second string) {
	t.Helper()
	a, b := rowOf(first), rowOf(second)
	n, pairs := impl.SeqLong(a, b), impl.SeqPairs(a, b)
	if want := wantedLong(a, b); n != want || len(pairs) != want {
		t.Fatalf("%q %q: %d, and %d pairs, not %d", first, second, n, len(pairs), want)
	}
	if !pairsAscend(a, b, pairs) {
		t.Fatalf("%q %q: %v", first, second, pairs)
	}
	if want := wantedPairs(a, b); !slices.Equal(pairs, want) {
		t.Fatalf("%q %q: %v, not %v", first, second, pairs, want)
	}
}

func TestSeqPairsOfAllSmallRows(t *testing.T) {
	rows := rowsUpTo(4, "abc")
	for _, a := range rows {
		for _, b := range rows {
			holdPairs(t, a, b)
		}
	}
	rows = rowsUpTo(6, "ab")
	for _, a := range rows {
		for _, b := range rows {
			holdPairs(t, a, b)
		}
	}
}

func TestSeqPairsOfLongRows(t *testing.T) {
	for _, letters := range []int{2, 3, 5} {
		rows := mixedRows(40, letters)
		for i, a := range rows {
			holdPairs(t, a, rows[(i+1)%len(rows)])
			holdPairs(t, a, a)
		}
	}
	holdPairs(t, "abcdefghijkl", "ghijklabcdef")
	holdPairs(t, "abababababab", "babababababa")
	holdPairs(t, "abcabcabcabc", "cbacbacbacba")
}

func TestSeqMergeLiterals(t *testing.T) {
	cases := []struct{ base, a, b, want string }{
		{"", "", "", ""},
		{"abc", "abc", "abc", "abc"},
		{"abc", "", "", ""},
		// A base without points is one piece.
		{"", "x", "", "x"},
		{"", "", "x", "x"},
		{"", "xy", "xy", "xy"},
		{"", "x", "y", "clash"},
		{"", "x", "xy", "clash"},
		{"", "xx", "x", "clash"},
		// Ahead of the first that stays, between two, and behind the last.
		{"abcd", "xabcd", "abcd", "xabcd"},
		{"abcd", "abxcd", "abcd", "abxcd"},
		{"abcd", "abcdx", "abcd", "abcdx"},
		{"abcd", "xabcd", "abcdy", "xabcdy"},
		{"abcd", "axbcd", "abcyd", "axbcyd"},
		{"abcd", "xabcd", "abycd", "xabycd"},
		{"abcd", "uabcd", "abvcdw", "uabvcdw"},
		{"abc", "uavbc", "abwcx", "uavbwcx"},
		{"a", "xa", "ay", "xay"},
		// At one place, and not alike.
		{"abc", "xabc", "yabc", "clash"},
		{"abc", "axbc", "aybc", "clash"},
		{"abc", "abcx", "abcy", "clash"},
		{"abc", "abcx", "abcxy", "clash"},
		{"abc", "axc", "ayc", "clash"},
		{"abc", "ac", "axc", "clash"},
		{"abc", "ac", "axbc", "clash"},
		{"abc", "ac", "abxc", "clash"},
		{"abcd", "xbcd", "ycd", "clash"},
		// A clash behind, or ahead of, what does not clash: nothing is told of that.
		{"abcd", "xabycd", "abzcd", "clash"},
		{"abcd", "xabycd", "zabcd", "clash"},
		{"abcd", "xabcdy", "abwcdz", "clash"},
		// Alike at one place, each its own at another.
		{"abcd", "xabycd", "xabcdz", "xabycdz"},
		{"abc", "axc", "axc", "axc"},
		{"abcd", "axcdy", "zaxcd", "zaxcdy"},
		// What one takes out and the other leaves is out.
		{"abcd", "abd", "abcd", "abd"},
		{"abcd", "bcd", "abce", "bce"},
		{"abcd", "bcd", "abc", "bc"},
		{"abcd", "acd", "abd", "clash"}, // b and c are one piece, as neither stays
		{"abcde", "acde", "abce", "ace"},
		{"abc", "", "abc", ""},
		{"abc", "abc", "", ""},
		{"abc", "xyz", "abc", "xyz"},
		{"abc", "xyz", "", "clash"},
		{"abc", "xyz", "xyz", "xyz"},
		// A point that comes twice.
		{"aa", "aaa", "aa", "aaa"},
		{"aa", "aaa", "baa", "baaa"},
		{"aa", "aaa", "aab", "clash"},
		{"aa", "a", "a", "a"},
		{"aa", "a", "aa", "a"},
		{"aba", "ab", "aba", "ab"},
		{"aba", "ba", "ab", "b"},
		{"aba", "ba", "aba", "ba"},
		{"abab", "baba", "abab", "baba"},
		{"abab", "baba", "baba", "baba"},
		{"ab", "abab", "cab", "cabab"},
		// What moves is taken out at one place and put in at another one.
		{"abc", "bca", "abc", "bca"},
		{"abc", "abc", "cab", "cab"},
		{"abc", "bca", "xabc", "clash"},
		{"abcd", "bcad", "abcdx", "bcadx"},
	}
	for _, c := range cases {
		if got := mergeText(t, c.base, c.a, c.b); got != c.want {
			t.Errorf("%q %q %q: %q, not %q", c.base, c.a, c.b, got, c.want)
		}
		if got := mergeText(t, c.base, c.b, c.a); got != c.want {
			t.Errorf("%q %q %q: %q, not %q", c.base, c.b, c.a, got, c.want)
		}
	}
}

func holdMerge(t *testing.T, base string, a string, b string) {
	t.Helper()
	was, one, other := rowOf(base), rowOf(a), rowOf(b)
	want, wantOk := wantedMerge(was, one, other, impl.SeqPairs(was, one), impl.SeqPairs(was, other))
	got, ok := impl.SeqMerge(was, one, other)
	if ok != wantOk || !slices.Equal(got, want) {
		t.Fatalf("%q %q %q: %q %v, not %q %v", base, a, b, lettersOf(got), ok, lettersOf(want), wantOk)
	}
}

func TestSeqMergeOfAllSmallRows(t *testing.T) {
	for _, rows := range [][]string{rowsUpTo(3, "abc"), rowsUpTo(4, "ab")} {
		for _, base := range rows {
			for _, a := range rows {
				for _, b := range rows {
					holdMerge(t, base, a, b)
				}
			}
		}
	}
}

// withTurns is a row with a few points taken out or put in, of at most 12.
func withTurns(row string, turns string) string {
	for _, letter := range turns {
		at := int(letter-'a') * len(row) / 26
		if letter%2 == 0 && len(row) > 0 {
			row = row[:at] + row[at+1:]
		} else if len(row) < 12 {
			row = row[:at] + string(letter) + row[at:]
		}
	}
	return row
}

func TestSeqMergeOfLongRows(t *testing.T) {
	merged := 0
	for _, letters := range []int{2, 4, 13} {
		turns := mixedRows(37, 26)
		for i, base := range mixedRows(300, letters) {
			first, second := turns[i%37], turns[(5*i+3)%37]
			a := withTurns(base, first[:min(len(first), 3)])
			b := withTurns(base, second[:min(len(second), 3)])
			holdMerge(t, base, a, b)
			if _, ok := impl.SeqMerge(rowOf(base), rowOf(a), rowOf(b)); ok {
				merged++
			}
		}
	}
	if merged < 200 || merged > 700 {
		t.Errorf("the rows are to tell both ways; of 900 %d do not clash", merged)
	}
}

// Promise 5: what one alone turned is turned, and what both turned alike is turned once.
func TestSeqMergeOfOneHandAlone(t *testing.T) {
	rows := rowsUpTo(4, "abc")
	long := append(mixedRows(30, 3), "abcdefghijkl", "lkjihgfedcba", "aaaaaaaaaaaa", "mnopqrstuvwx")
	for _, list := range [][]string{rows, long} {
		for _, base := range list {
			for _, a := range list {
				if got := mergeText(t, base, a, base); got != a {
					t.Fatalf("%q, the first alone %q: %q", base, a, got)
				}
				if got := mergeText(t, base, base, a); got != a {
					t.Fatalf("%q, the second alone %q: %q", base, a, got)
				}
				if got := mergeText(t, base, a, a); got != a {
					t.Fatalf("%q, both %q: %q", base, a, got)
				}
			}
		}
	}
}

// Promise 5: what two put in at different places is both in what comes; at one place it clashes, unless it is
// alike, and then comes once.
func TestSeqMergeOfWhatBothPutIn(t *testing.T) {
	for n := range 7 {
		base := "abcdef"[:n]
		for i := range n + 1 {
			for k := range n + 1 {
				for _, put := range []struct{ first, second string }{{"x", "y"}, {"xy", "z"}, {"x", "xy"}, {"xx", "x"}, {"xyz", "zyx"}} {
					a, b := base[:i]+put.first+base[i:], base[:k]+put.second+base[k:]
					want := "clash"
					if i < k {
						want = base[:i] + put.first + base[i:k] + put.second + base[k:]
					} else if k < i {
						want = base[:k] + put.second + base[k:i] + put.first + base[i:]
					}
					if got := mergeText(t, base, a, b); got != want {
						t.Errorf("%q %q %q: %q, not %q", base, a, b, got, want)
					}
					if got := mergeText(t, base, b, a); got != want {
						t.Errorf("%q %q %q: %q, not %q", base, b, a, got, want)
					}
				}
			}
		}
	}
}

// Promise 5, of points that are turned into others, one in the place of each.
func TestSeqMergeOfWhatBothTurn(t *testing.T) {
	base := "abcdef"
	for i := range len(base) {
		for k := range len(base) {
			a, b := base[:i]+"x"+base[i+1:], base[:k]+"y"+base[k+1:]
			// Right beside each other they are one piece, as no point between them stays.
			want := "clash"
			if i+1 < k || k+1 < i {
				want = strings.Replace(a, base[k:k+1], "y", 1)
			}
			if got := mergeText(t, base, a, b); got != want {
				t.Errorf("%q %q %q: %q, not %q", base, a, b, got, want)
			}
			if i == k {
				if got := mergeText(t, base, a, a); got != a {
					t.Errorf("%q, both %q: %q", base, a, got)
				}
			}
		}
	}
}

// Whichever hand is the first, the same comes; and no point comes that is in none of the three.
func TestSeqMergeIsTheSameFromEitherHand(t *testing.T) {
	rows := rowsUpTo(3, "abc")
	for _, base := range rows {
		for _, a := range rows {
			for _, b := range rows {
				got := mergeText(t, base, a, b)
				if other := mergeText(t, base, b, a); got != other {
					t.Fatalf("%q %q %q: %q, and the other way %q", base, a, b, got, other)
				}
				if got != "clash" && strings.Trim(got, base+a+b) != "" {
					t.Fatalf("%q %q %q: %q", base, a, b, got)
				}
			}
		}
	}
}

func TestSeqMeetsItsBoundExactly(t *testing.T) {
	full := rowOf("abcdefghijkl")
	other := rowOf("abcdefxhijkl")
	if n := impl.SeqLong(full, other); n != 11 {
		t.Errorf("12 and 12: %d", n)
	}
	if p := impl.SeqPairs(full, other); len(p) != 11 || p[10] != (impl.Pair{A: 11, B: 11}) {
		t.Errorf("12 and 12: %v", p)
	}
	if p := impl.SeqPairs(full, full); len(p) != 12 || p[11] != (impl.Pair{A: 11, B: 11}) {
		t.Errorf("12 twice: %v", p)
	}
	if got := mergeText(t, "abcdefghijkl", "xbcdefghijkl", "abcdefghijky"); got != "xbcdefghijky" {
		t.Errorf("12, 12 and 12: %q", got)
	}
	// What comes may be longer than each of the three.
	if got := mergeText(t, "a", "bcdefghijkla", "amnopqrstuvw"); got != "bcdefghijklamnopqrstuvw" {
		t.Errorf("1, 12 and 12: %q", got)
	}
	if got := mergeText(t, "abcdef", "ambncodpeqfr", "abcdefuvwxyz"); got != "clash" {
		t.Errorf("6, 12 and 12, both behind the last: %q", got)
	}
	if got := mergeText(t, "abcdef", "manbocpdqerf", "abcdefuvwxyz"); got != "manbocpdqerfuvwxyz" {
		t.Errorf("6, 12 and 12: %q", got)
	}
}

// longRows are of more points than are taken; they begin as others do, or have one point many times.
func longRows() [][]impl.Pt {
	return [][]impl.Pt{rowOf("abcdefghijklm"), rowOf("aaaaaaaaaaaaa"), zigzag(13), zigzag(14), zigzag(5000)}
}

func TestSeqOfLongerRowsTellsNothing(t *testing.T) {
	rows := [][]impl.Pt{nil, rowOf("a"), rowOf("abcdef"), rowOf("abcdefghijkl"), zigzag(12)}
	for _, long := range longRows() {
		for _, row := range append(slices.Clone(rows), long) {
			for _, two := range [][2][]impl.Pt{{long, row}, {row, long}} {
				if n := impl.SeqLong(two[0], two[1]); n != 0 {
					t.Errorf("%d and %d points: %d", len(two[0]), len(two[1]), n)
				}
				if p := impl.SeqPairs(two[0], two[1]); len(p) != 0 {
					t.Errorf("%d and %d points: %v", len(two[0]), len(two[1]), p)
				}
			}
			for _, three := range [][3][]impl.Pt{
				{long, row, row}, {row, long, row}, {row, row, long}, {long, long, row}, {long, row, long}, {row, long, long},
			} {
				if m, ok := impl.SeqMerge(three[0], three[1], three[2]); ok || len(m) != 0 {
					t.Errorf("%d, %d and %d points: %v %v", len(three[0]), len(three[1]), len(three[2]), m, ok)
				}
			}
		}
	}
}

// Rows are not asked to be shapes: any X and Y may come, and one point right behind itself.
func TestSeqOfAnyPoints(t *testing.T) {
	far := []impl.Pt{
		pt(math.MinInt, math.MaxInt), pt(math.MaxInt, math.MinInt), pt(math.MinInt, math.MinInt), pt(math.MaxInt, math.MaxInt),
		pt(1001, 0), pt(0, -1001), pt(0, 0), pt(-1, 1), pt(1, -1), pt(math.MinInt, 0), pt(0, math.MaxInt), pt(1<<32, 1<<32),
	}
	for i, p := range far {
		for k, q := range far {
			one := impl.SeqLong([]impl.Pt{p}, []impl.Pt{q})
			pairs := impl.SeqPairs([]impl.Pt{p}, []impl.Pt{q})
			if (one == 1) != (i == k) || len(pairs) != one {
				t.Errorf("%v and %v: %d, %v", p, q, one, pairs)
			}
			if m, ok := impl.SeqMerge(nil, []impl.Pt{p}, []impl.Pt{q}); ok != (i == k) || len(m) != one {
				t.Errorf("%v and %v are put in: %v %v", p, q, m, ok)
			}
			want := []impl.Pt{p, p, pt(7, 7), q, q}
			if m, ok := impl.SeqMerge([]impl.Pt{pt(7, 7)}, want[:3], want[2:]); !ok || !slices.Equal(m, want) {
				t.Errorf("%v ahead and %v behind: %v %v", p, q, m, ok)
			}
		}
	}
	if n := impl.SeqLong(far, far); n != 12 {
		t.Errorf("twice: %d", n)
	}
	without := slices.Concat(far[:3], far[4:])
	if m, ok := impl.SeqMerge(far, without, far); !ok || !slices.Equal(m, without) {
		t.Errorf("one is taken out: %v %v", m, ok)
	}
	// Of these, each is one X, or one Y, with the one beside it.
	if n := impl.SeqLong([]impl.Pt{pt(3, 4), pt(4, 3)}, []impl.Pt{pt(3, 3), pt(4, 4)}); n != 0 {
		t.Errorf("one X or one Y alone: %d", n)
	}
}

func TestSeqOfNoPoints(t *testing.T) {
	for _, none := range [][]impl.Pt{nil, {}} {
		for _, other := range [][]impl.Pt{nil, {}, rowOf("abc")} {
			if n, p := impl.SeqLong(none, other), impl.SeqPairs(none, other); n != 0 || len(p) != 0 {
				t.Errorf("none and %v: %d %v", other, n, p)
			}
			if n, p := impl.SeqLong(other, none), impl.SeqPairs(other, none); n != 0 || len(p) != 0 {
				t.Errorf("%v and none: %d %v", other, n, p)
			}
			if m, ok := impl.SeqMerge(none, other, nil); !ok || !slices.Equal(m, other) {
				t.Errorf("%v is put in: %v %v", other, m, ok)
			}
			if m, ok := impl.SeqMerge(other, none, other); !ok || len(m) != 0 {
				t.Errorf("%v is taken out: %v %v", other, m, ok)
			}
		}
	}
}

// roomyRow is a row that lies ahead of other points; the whole memory comes with it.
func roomyRow(row []impl.Pt) ([]impl.Pt, []impl.Pt) {
	s, all := roomy(impl.Shape{Pts: row})
	return s.Pts, all
}

func overwriteRow(row []impl.Pt) { overwrite(impl.Shape{Pts: row}) }

// seqCases are three rows each: with and without clashes, of one piece and of many, met and past the bound.
func seqCases() [][3][]impl.Pt {
	var cases [][3][]impl.Pt
	rows := []string{"", "a", "abc", "axbc", "abcx", "ac", "xyz", "abcdefghijkl", "abcdefghijklm"}
	for _, base := range rows {
		for _, a := range rows {
			for _, b := range rows {
				cases = append(cases, [3][]impl.Pt{rowOf(base), rowOf(a), rowOf(b)})
			}
		}
	}
	return cases
}

func TestSeqLeavesArgumentsAlone(t *testing.T) {
	for _, c := range seqCases() {
		var given, all, before [3][]impl.Pt
		for i, row := range c {
			given[i], all[i] = roomyRow(row)
			before[i] = slices.Clone(all[i])
		}
		untouched := func() bool {
			return slices.Equal(all[0], before[0]) && slices.Equal(all[1], before[1]) && slices.Equal(all[2], before[2])
		}
		impl.SeqLong(given[0], given[1])
		impl.SeqPairs(given[0], given[1])
		merged, _ := impl.SeqMerge(given[0], given[1], given[2])
		if !untouched() {
			t.Fatalf("a call has written into %v", c)
		}
		kept := slices.Clone(merged)
		overwriteRow(merged)
		if !untouched() {
			t.Fatalf("what comes of %v shares memory with it", c)
		}
		merged, _ = impl.SeqMerge(given[0], given[1], given[2])
		for _, row := range all {
			overwriteRow(row)
		}
		if !slices.Equal(merged, kept) {
			t.Fatalf("what comes of %v shares memory with it", c)
		}
	}
}

// The three rows may lie in one piece of memory, one over the other.
func TestSeqOfRowsInOnePieceOfMemory(t *testing.T) {
	all := rowOf("xabcxabcyabcxabc")
	before := slices.Clone(all)
	for from := range 4 {
		base, a, b := all[from+1:from+4], all[from:from+4], all[from+1:from+5]
		want, wantOk := impl.SeqMerge(slices.Clone(base), slices.Clone(a), slices.Clone(b))
		got, ok := impl.SeqMerge(base, a, b)
		if ok != wantOk || !slices.Equal(got, want) {
			t.Errorf("from %d: %v %v, not %v %v", from, got, ok, want, wantOk)
		}
		overwriteRow(got)
		if !slices.Equal(all, before) {
			t.Fatalf("from %d: what comes shares memory with the rows", from)
		}
	}
}

func TestSeqAnswersAreNewEachTime(t *testing.T) {
	base, a, b := rowOf("abc"), rowOf("xabc"), rowOf("abcy")
	for range 3 {
		pairs := impl.SeqPairs(base, a)
		if !slices.Equal(pairs, []impl.Pair{{A: 0, B: 1}, {A: 1, B: 2}, {A: 2, B: 3}}) {
			t.Fatalf("pairs: %v", pairs)
		}
		room := pairs[:cap(pairs)]
		for i := range room {
			room[i] = impl.Pair{A: -5, B: -5}
		}
		merged, ok := impl.SeqMerge(base, a, b)
		if !ok || lettersOf(merged) != "xabcy" {
			t.Fatalf("merged: %v %v", merged, ok)
		}
		overwriteRow(merged)
		if n := impl.SeqLong(base, a); n != 3 {
			t.Fatalf("long: %d", n)
		}
	}
}
