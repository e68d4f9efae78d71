package tests

import (
	"math"
	"slices"
	"strings"
	"testing"

	"loop.example/townland/impl"
)

func pt(x int, y int) impl.Pt { return impl.Pt{X: x, Y: y} }

func shapeOf(kind int, pts ...impl.Pt) impl.Shape {
	return impl.Shape{Kind: kind, Pts: pts}
}

func isNothing(s impl.Shape) bool { return s.Kind == 0 && len(s.Pts) == 0 }

// zigzag is a row of n points, no two of which are the same.
func zigzag(n int) []impl.Pt {
	var pts []impl.Pt
	for i := range n {
		pts = append(pts, pt(3*i-7, i*i%5))
	}
	return pts
}

func okShapes() []impl.Shape {
	list := []impl.Shape{
		shapeOf(impl.ShapeDot, pt(0, 0)),
		shapeOf(impl.ShapeDot, pt(-1000, 1000)),
		shapeOf(impl.ShapeDot, pt(1000, -1000)),
		shapeOf(impl.ShapeLine, pt(-1000, -1000), pt(1000, 1000)),
		shapeOf(impl.ShapeLine, pt(5, 5), pt(6, 5), pt(5, 5)),
		shapeOf(impl.ShapeRing, pt(0, 0), pt(2, 0), pt(2, 2), pt(0, 2)),
		shapeOf(impl.ShapeRing, pt(1, 1), pt(2, 0), pt(1, 1), pt(0, 5)),
		shapeOf(impl.ShapeRing, pt(0, 0), pt(3, 1), pt(0, 0), pt(2, 9), pt(0, 0), pt(2, 8)),
		shapeOf(impl.ShapeRing, pt(0, 0), pt(1, 1), pt(0, 0), pt(1, 1)),
		shapeOf(impl.ShapeRing, pt(-1000, -1000), pt(1000, -1000), pt(1000, 1000), pt(-1000, 1000), pt(-1000, 999), pt(-999, 1000)),
	}
	for n := 2; n <= impl.ShapeMost; n++ {
		list = append(list, shapeOf(impl.ShapeLine, zigzag(n)...))
	}
	for n := 3; n <= impl.ShapeMost; n++ {
		list = append(list, shapeOf(impl.ShapeRing, zigzag(n)...))
	}
	return list
}

func wrongShapes() []impl.Shape {
	return []impl.Shape{
		{},
		shapeOf(0, pt(0, 0)),
		shapeOf(4, pt(0, 0), pt(1, 0), pt(1, 1)),
		shapeOf(-1, pt(0, 0)),
		shapeOf(-2, pt(0, 0), pt(1, 0)),
		shapeOf(math.MaxInt, pt(0, 0)),
		shapeOf(math.MinInt, pt(0, 0)),
		shapeOf(impl.ShapeDot),
		shapeOf(impl.ShapeDot, zigzag(2)...),
		shapeOf(impl.ShapeDot, zigzag(6)...),
		shapeOf(impl.ShapeLine),
		shapeOf(impl.ShapeLine, zigzag(1)...),
		shapeOf(impl.ShapeLine, zigzag(7)...),
		shapeOf(impl.ShapeRing),
		shapeOf(impl.ShapeRing, zigzag(1)...),
		shapeOf(impl.ShapeRing, zigzag(2)...),
		shapeOf(impl.ShapeRing, zigzag(7)...),
		shapeOf(impl.ShapeLine, zigzag(5000)...),
		shapeOf(impl.ShapeDot, pt(1001, 0)),
		shapeOf(impl.ShapeDot, pt(-1001, 0)),
		shapeOf(impl.ShapeDot, pt(0, 1001)),
		shapeOf(impl.ShapeDot, pt(0, -1001)),
		shapeOf(impl.ShapeDot, pt(math.MinInt, 0)),
		shapeOf(impl.ShapeDot, pt(0, math.MaxInt)),
		shapeOf(impl.ShapeLine, pt(0, 0), pt(1, 1), pt(0, 1001)),
		shapeOf(impl.ShapeRing, pt(0, 0), pt(-1001, 1), pt(0, 1)),
		shapeOf(impl.ShapeLine, pt(3, 3), pt(3, 3)),
		shapeOf(impl.ShapeLine, pt(1, 1), pt(2, 2), pt(3, 3), pt(3, 3)),
		shapeOf(impl.ShapeRing, pt(1, 1), pt(1, 1), pt(2, 2), pt(3, 4)),
		shapeOf(impl.ShapeRing, pt(1, 1), pt(2, 2), pt(2, 2), pt(3, 4)),
		shapeOf(impl.ShapeRing, pt(0, 0), pt(1, 0), pt(0, 0)),
		shapeOf(impl.ShapeRing, pt(0, 0), pt(1, 0), pt(1, 1), pt(0, 0)),
		shapeOf(impl.ShapeRing, pt(0, 0), pt(1, 0), pt(1, 1), pt(0, 1), pt(-1, 0), pt(0, 0)),
	}
}

func TestShapeOk(t *testing.T) {
	for _, s := range okShapes() {
		if !impl.ShapeOk(s) {
			t.Errorf("%v is refused", s)
		}
	}
	for _, s := range wrongShapes() {
		if impl.ShapeOk(s) {
			t.Errorf("%v is taken", s)
		}
	}
}

func TestShapeSame(t *testing.T) {
	all := append(okShapes(), wrongShapes()...)
	for _, s := range all {
		other := impl.Shape{Kind: s.Kind, Pts: slices.Clone(s.Pts)}
		if !impl.ShapeSame(s, other) {
			t.Errorf("%v is not the same as its copy", s)
		}
		other.Kind ^= 1
		if impl.ShapeSame(s, other) {
			t.Errorf("%v is the same as one of another kind", s)
		}
		more := impl.Shape{Kind: s.Kind, Pts: append(slices.Clone(s.Pts), pt(77, 77))}
		if impl.ShapeSame(s, more) || impl.ShapeSame(more, s) {
			t.Errorf("%v is the same as one with a point more", s)
		}
		for i := range s.Pts {
			for _, d := range []impl.Pt{pt(1, 0), pt(0, 1)} {
				near := impl.Shape{Kind: s.Kind, Pts: slices.Clone(s.Pts)}
				near.Pts[i].X ^= d.X
				near.Pts[i].Y ^= d.Y
				if impl.ShapeSame(s, near) {
					t.Errorf("%v is the same as %v", s, near)
				}
			}
		}
	}
	if !impl.ShapeSame(impl.Shape{Kind: 9}, impl.Shape{Kind: 9, Pts: []impl.Pt{}}) {
		t.Error("the empty list and the nil list are told apart")
	}
	a := shapeOf(impl.ShapeRing, pt(0, 0), pt(2, 0), pt(2, 2))
	b := shapeOf(impl.ShapeRing, pt(2, 0), pt(2, 2), pt(0, 0))
	if impl.ShapeSame(a, b) {
		t.Error("two rings that begin otherwise are the same ahead of being turned")
	}
}

func TestShapeNotOkTellsNothing(t *testing.T) {
	for _, s := range wrongShapes() {
		if m, ok := impl.ShapeMove(s, 0, 0); ok || !isNothing(m) {
			t.Errorf("ShapeMove of %v: %v %v", s, m, ok)
		}
		if b := impl.ShapeBack(s); !isNothing(b) {
			t.Errorf("ShapeBack of %v: %v", s, b)
		}
		if r := impl.ShapeTurn(s); !isNothing(r) {
			t.Errorf("ShapeTurn of %v: %v", s, r)
		}
		if n := impl.ShapeArea(s); n != 0 {
			t.Errorf("ShapeArea of %v: %d", s, n)
		}
		if low, high := impl.ShapeBox(s); low != pt(0, 0) || high != pt(0, 0) {
			t.Errorf("ShapeBox of %v: %v %v", s, low, high)
		}
		if text := impl.ShapeText(s); text != "" {
			t.Errorf("ShapeText of %v: %q", s, text)
		}
	}
	far := shapeOf(impl.ShapeDot, pt(1001, 0))
	if m, ok := impl.ShapeMove(far, -5, 0); ok || !isNothing(m) {
		t.Errorf("what is not ok is moved to where it is: %v", m)
	}
}

func TestShapeMove(t *testing.T) {
	cases := []struct {
		s      impl.Shape
		dx, dy int
		want   impl.Shape
		ok     bool
	}{
		{shapeOf(1, pt(3, 4)), 0, 0, shapeOf(1, pt(3, 4)), true},
		{shapeOf(2, pt(3, 4), pt(-1, 0)), 10, -20, shapeOf(2, pt(13, -16), pt(9, -20)), true},
		{shapeOf(3, pt(0, 0), pt(1, 0), pt(0, 1)), -1, 2, shapeOf(3, pt(-1, 2), pt(0, 2), pt(-1, 3)), true},
		{shapeOf(1, pt(-1000, 1000)), 2000, -2000, shapeOf(1, pt(1000, -1000)), true},
		{shapeOf(1, pt(1000, -1000)), -2000, 2000, shapeOf(1, pt(-1000, 1000)), true},
		{shapeOf(1, pt(999, 0)), 1, 0, shapeOf(1, pt(1000, 0)), true},
		{shapeOf(1, pt(1000, 0)), 1, 0, impl.Shape{}, false},
		{shapeOf(1, pt(-1000, 0)), -1, 0, impl.Shape{}, false},
		{shapeOf(1, pt(0, 1000)), 0, 1, impl.Shape{}, false},
		{shapeOf(1, pt(0, -1000)), 0, -1, impl.Shape{}, false},
		{shapeOf(2, pt(0, 0), pt(1000, 0)), 1, 0, impl.Shape{}, false},
		{shapeOf(2, pt(0, 1000), pt(0, 0)), 0, 1, impl.Shape{}, false},
		{shapeOf(1, pt(0, 0)), 2000, 0, impl.Shape{}, false},
	}
	for _, c := range cases {
		got, ok := impl.ShapeMove(c.s, c.dx, c.dy)
		if ok != c.ok || !impl.ShapeSame(got, c.want) {
			t.Errorf("%v by %d and %d: %v %v", c.s, c.dx, c.dy, got, ok)
		}
	}
	for _, d := range []int{2001, -2001, math.MaxInt, math.MinInt, math.MaxInt - 999, math.MinInt + 1001} {
		for _, at := range []int{-1000, -1, 0, 1, 1000} {
			s := shapeOf(impl.ShapeDot, pt(at, at))
			if got, ok := impl.ShapeMove(s, d, 0); ok || !isNothing(got) {
				t.Errorf("%v by %d and 0: %v", s, d, got)
			}
			if got, ok := impl.ShapeMove(s, 0, d); ok || !isNothing(got) {
				t.Errorf("%v by 0 and %d: %v", s, d, got)
			}
		}
	}
}

func TestShapeBack(t *testing.T) {
	for _, s := range okShapes() {
		want := shapeOf(s.Kind)
		for i := len(s.Pts) - 1; i >= 0; i-- {
			want.Pts = append(want.Pts, s.Pts[i])
		}
		if got := impl.ShapeBack(s); !impl.ShapeSame(got, want) {
			t.Errorf("%v: %v", s, got)
		}
	}
}

// begunAt is a ring that begins at another one of its points.
func begunAt(s impl.Shape, place int) impl.Shape {
	turned := shapeOf(s.Kind)
	for i := range s.Pts {
		turned.Pts = append(turned.Pts, s.Pts[(place+i)%len(s.Pts)])
	}
	return turned
}

// rowAhead says whether the first pair of points that is not the same has the first row ahead.
func rowAhead(a []impl.Pt, b []impl.Pt) bool {
	for i := range a {
		if a[i].X != b[i].X {
			return a[i].X < b[i].X
		}
		if a[i].Y != b[i].Y {
			return a[i].Y < b[i].Y
		}
	}
	return false
}

func TestShapeTurnAnywhereTheSame(t *testing.T) {
	for _, s := range okShapes() {
		if s.Kind != impl.ShapeRing {
			if got := impl.ShapeTurn(s); !impl.ShapeSame(got, s) {
				t.Errorf("%v is turned to %v", s, got)
			}
			continue
		}
		want := s
		for i := range s.Pts {
			if r := begunAt(s, i); rowAhead(r.Pts, want.Pts) {
				want = r
			}
		}
		for i := range s.Pts {
			r := begunAt(s, i)
			if got := impl.ShapeTurn(r); !impl.ShapeSame(got, want) {
				t.Errorf("%v is turned to %v, not %v", r, got, want)
			}
		}
	}
}

// Every ring of 3 to 5 points on a few places, so that points come twice in all ways they can.
func TestShapeTurnOfAllSmallRings(t *testing.T) {
	places := []impl.Pt{pt(0, 0), pt(0, 1), pt(1, -1)}
	rows := [][]impl.Pt{nil}
	for range 5 {
		var next [][]impl.Pt
		for _, row := range rows {
			for _, p := range places {
				next = append(next, append(slices.Clone(row), p))
			}
		}
		rows = next
		for _, row := range rows {
			s := shapeOf(impl.ShapeRing, row...)
			if !impl.ShapeOk(s) {
				continue
			}
			first := impl.ShapeTurn(s)
			for i := range row {
				r := begunAt(s, i)
				if rowAhead(r.Pts, first.Pts) {
					t.Fatalf("%v is ahead of %v", r, first)
				}
				if got := impl.ShapeTurn(r); !impl.ShapeSame(got, first) {
					t.Fatalf("%v is turned to %v, and %v to %v", s, first, r, got)
				}
			}
		}
	}
}

func TestShapeTurnLiterals(t *testing.T) {
	cases := [][2]string{
		{"ring 2,2 0,2 0,0 2,0", "ring 0,0 2,0 2,2 0,2"},
		{"ring 1,5 0,9 1,-5", "ring 0,9 1,-5 1,5"},
		{"ring 0,1 5,5 0,-1", "ring 0,-1 0,1 5,5"},
		{"ring 0,0 3,1 0,0 2,9", "ring 0,0 2,9 0,0 3,1"},
		{"ring 0,0 3,1 0,0 2,9 0,0 2,8", "ring 0,0 2,8 0,0 3,1 0,0 2,9"},
		{"ring 0,0 1,1 0,0 1,0", "ring 0,0 1,0 0,0 1,1"},
		{"line 5,5 0,0", "line 5,5 0,0"},
		{"dot 5,5", "dot 5,5"},
	}
	for _, c := range cases {
		s, ok := impl.ShapeRead(c[0])
		if got := impl.ShapeText(impl.ShapeTurn(s)); !ok || got != c[1] {
			t.Errorf("%q is turned to %q", c[0], got)
		}
	}
}

func TestShapeArea(t *testing.T) {
	cases := []struct {
		text string
		want int
	}{
		{"dot 5,7", 0},
		{"line 0,0 4,0 4,4", 0},
		{"ring 0,0 4,0 4,4", 16},
		{"ring 0,0 4,4 4,0", -16},
		{"ring 1,1 3,1 3,4 1,4", 12},
		{"ring 0,0 1,1 0,0 1,1", 0},
		{"ring -1000,-1000 1000,-1000 1000,1000 -1000,1000", 8000000},
		{"ring -1000,1000 1000,1000 1000,-1000 -1000,-1000", -8000000},
	}
	for _, c := range cases {
		s, ok := impl.ShapeRead(c.text)
		if got := impl.ShapeArea(s); !ok || got != c.want {
			t.Errorf("%q: %d", c.text, got)
		}
	}
}

func TestShapeBox(t *testing.T) {
	cases := []struct {
		text      string
		low, high impl.Pt
	}{
		{"dot 5,-7", pt(5, -7), pt(5, -7)},
		{"line 4,-3 -2,9", pt(-2, -3), pt(4, 9)},
		{"line 1,9 9,1 5,5", pt(1, 1), pt(9, 9)},
		{"line -9,3 -5,2", pt(-9, 2), pt(-5, 3)},
		{"line 8,-3 5,-6", pt(5, -6), pt(8, -3)},
		{"ring -5,-5 -9,-1 -1,-9", pt(-9, -9), pt(-1, -1)},
		{"ring 7,3 2,8 4,4 6,6 3,9 8,2", pt(2, 2), pt(8, 9)},
	}
	for _, c := range cases {
		s, ok := impl.ShapeRead(c.text)
		if low, high := impl.ShapeBox(s); !ok || low != c.low || high != c.high {
			t.Errorf("%q: %v %v", c.text, low, high)
		}
	}
}

func TestShapeTextLiterals(t *testing.T) {
	cases := []struct {
		s    impl.Shape
		want string
	}{
		{shapeOf(impl.ShapeDot, pt(0, -2)), "dot 0,-2"},
		{shapeOf(impl.ShapeLine, pt(-1000, 1000), pt(10, 100)), "line -1000,1000 10,100"},
		{shapeOf(impl.ShapeRing, pt(0, 0), pt(2, 0), pt(0, 2)), "ring 0,0 2,0 0,2"},
	}
	for _, c := range cases {
		if got := impl.ShapeText(c.s); got != c.want {
			t.Errorf("%v: %q", c.s, got)
		}
		if got, ok := impl.ShapeRead(c.want); !ok || !impl.ShapeSame(got, c.s) {
			t.Errorf("%q: %v %v", c.want, got, ok)
		}
	}
}

func TestShapeIsReadFromItsText(t *testing.T) {
	for _, s := range okShapes() {
		got, ok := impl.ShapeRead(impl.ShapeText(s))
		if !ok || !impl.ShapeSame(got, s) {
			t.Errorf("%v is read as %v %v", s, got, ok)
		}
	}
	for n := -impl.PtMost; n <= impl.PtMost; n++ {
		s := shapeOf(impl.ShapeDot, pt(n, -n))
		if got, ok := impl.ShapeRead(impl.ShapeText(s)); !ok || !impl.ShapeSame(got, s) {
			t.Fatalf("%v is read as %v %v", s, got, ok)
		}
	}
}

func TestShapeReadRefuses(t *testing.T) {
	longest := "ring" + strings.Repeat(" -1000,-1000 -1000,-999", 3)
	wrong := []string{
		"", " ", "\n", "dot", "dot ", "line", "ring", "0,0", " 0,0", "1 0,0",
		"Dot 0,0", "dots 0,0", "do 0,0", "fly 0,0", "dot0,0", "dot\t0,0",
		" dot 0,0", "dot  0,0", "dot 0,0 ", "dot 0,0\n", "dot 0,0\x00", "dot 0 ,0", "dot 0, 0",
		"line 0,0  1,1", "line 0,0 1,1 ", "line 0,01,1",
		"dot 0", "dot 00", "dot ,", "dot 0,", "dot ,0", "dot 0,0,", "dot 0,0,0", "dot ,0,0", "dot 0;0", "dot 0.0",
		"dot 01,0", "dot 0,01", "dot 00,0", "dot 0,00", "dot -01,0", "dot 0,-01",
		"dot -0,0", "dot 0,-0", "dot +1,0", "dot 0,+1", "dot +0,0", "dot --1,0", "dot -,0", "dot 0,-", "dot 1-,0",
		"dot 1e1,0", "dot 0x1,0", "dot 1_0,0", "dot a,0", "dot \xff,0", "dot \u0661,0", "dot \u22121,0",
		"dot 1001,0", "dot 0,1001", "dot -1001,0", "dot 0,-1001",
		"dot 9223372036854775808,0", "dot 0,-9223372036854775809", "dot 18446744073709551616,0",
		"dot 0,0 1,1", "line 0,0", "line 0,0 0,0", "line 0,0 1,1 1,1",
		"ring 0,0 1,0", "ring 0,0 1,0 0,0", "ring 0,0 1,0 1,1 0,0",
		"line 0,0 1,1 2,2 3,3 4,4 5,5 6,6", "ring 0,0 1,1 2,2 3,3 4,4 5,5 6,0",
		longest + strings.Repeat(" ", 100-len(longest)),
		longest + strings.Repeat(" ", 101-len(longest)),
		"dot 0," + strings.Repeat("0", 94),
		"dot 0," + strings.Repeat("0", 95),
		strings.Repeat("dot 0,0 ", 5000),
	}
	for _, text := range wrong {
		if got, ok := impl.ShapeRead(text); ok || !isNothing(got) {
			t.Errorf("%q: %v %v", text, got, ok)
		}
	}
	if got, ok := impl.ShapeRead(longest); !ok || impl.ShapeText(got) != longest {
		t.Errorf("%q: %v %v", longest, got, ok)
	}
}

// Whatever bytes a text has, it is read only if it is the text of what is read.
func TestShapeReadOfChangedTexts(t *testing.T) {
	bytes := "0123456789-+, drx\n\x00\xff"
	for _, s := range okShapes() {
		text := impl.ShapeText(s)
		for i := range len(text) + 1 {
			for _, b := range []byte(bytes) {
				added := text[:i] + string([]byte{b}) + text[i:]
				if got, ok := impl.ShapeRead(added); ok && impl.ShapeText(got) != added || !ok && !isNothing(got) {
					t.Fatalf("%q: %v %v", added, got, ok)
				}
			}
			if i < len(text) {
				cut := text[:i] + text[i+1:]
				if got, ok := impl.ShapeRead(cut); ok && impl.ShapeText(got) != cut || !ok && !isNothing(got) {
					t.Fatalf("%q: %v %v", cut, got, ok)
				}
			}
		}
	}
}

// roomy is a shape whose points lie ahead of other ones in one piece of memory; that piece comes with it.
func roomy(s impl.Shape) (impl.Shape, []impl.Pt) {
	all := append(slices.Clone(s.Pts), pt(41, 42), pt(43, 44), pt(45, 46))
	return impl.Shape{Kind: s.Kind, Pts: all[:len(s.Pts)]}, all
}

func overwrite(s impl.Shape) {
	room := s.Pts[:cap(s.Pts)]
	for i := range room {
		room[i] = pt(-555, 555)
	}
}

func TestShapeLeavesArgumentsAlone(t *testing.T) {
	for _, s := range append(okShapes(), wrongShapes()...) {
		given, all := roomy(s)
		before := slices.Clone(all)
		moved, _ := impl.ShapeMove(given, 0, 0)
		answers := []impl.Shape{moved, impl.ShapeBack(given), impl.ShapeTurn(given)}
		impl.ShapeOk(given)
		impl.ShapeSame(given, given)
		impl.ShapeArea(given)
		impl.ShapeBox(given)
		impl.ShapeText(given)
		if !slices.Equal(all, before) {
			t.Fatalf("a call has written into %v", s)
		}
		for i, a := range answers {
			kept := impl.Shape{Kind: a.Kind, Pts: slices.Clone(a.Pts)}
			overwrite(given)
			if !impl.ShapeSame(a, kept) {
				t.Errorf("answer %d of %v shares memory with it", i, s)
			}
			copy(all, before)
			overwrite(a)
			if !slices.Equal(all, before) {
				t.Errorf("answer %d of %v shares memory with it", i, s)
			}
		}
	}
}

func TestShapeAnswersAreNewEachTime(t *testing.T) {
	a, _ := impl.ShapeRead("line 1,2 3,4")
	overwrite(a)
	if b, ok := impl.ShapeRead("line 1,2 3,4"); !ok || impl.ShapeText(b) != "line 1,2 3,4" {
		t.Errorf("what was answered once comes again as it was turned: %v", b)
	}
}
