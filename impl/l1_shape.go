package impl

import (
	"cmp"
	"slices"
	"strconv"
	"strings"
)

// Pt is a point.
type Pt struct {
	X int
	Y int
}

// Shape is a point, a line, or a ring of points.
type Shape struct {
	Kind int
	Pts  []Pt
}

// Kinds of shapes, and bounds.
const (
	ShapeDot  = 1
	ShapeLine = 2
	ShapeRing = 3
	PtMost    = 1000
	ShapeMost = 6
)

// shapeTextMost is how many bytes of a text are read as a shape at most.
const shapeTextMost = 100

// shapeKind is what each kind of shape does in its own way.
type shapeKind interface {
	number() int
	word() string
	holds(pts []Pt) bool
	turn(pts []Pt) []Pt
	area(pts []Pt) int
}

type dotKind struct{}

func (dotKind) number() int         { return ShapeDot }
func (dotKind) word() string        { return "dot" }
func (dotKind) holds(pts []Pt) bool { return len(pts) == 1 }
func (dotKind) turn(pts []Pt) []Pt  { return slices.Clone(pts) }
func (dotKind) area(pts []Pt) int   { return 0 }

type lineKind struct{}

func (lineKind) number() int         { return ShapeLine }
func (lineKind) word() string        { return "line" }
func (lineKind) holds(pts []Pt) bool { return len(pts) >= 2 }
func (lineKind) turn(pts []Pt) []Pt  { return slices.Clone(pts) }
func (lineKind) area(pts []Pt) int   { return 0 }

type ringKind struct{}

func (ringKind) number() int  { return ShapeRing }
func (ringKind) word() string { return "ring" }

// The way from the last point to the first is a side too, so these two are held against each other.
func (ringKind) holds(pts []Pt) bool {
	return len(pts) >= 3 && pts[0] != pts[len(pts)-1]
}

// Whole rows are held against each other, as the least point may come more than once.
func (ringKind) turn(pts []Pt) []Pt {
	least := rowFrom(pts, 0)
	for i := range pts {
		row := rowFrom(pts, i)
		if slices.CompareFunc(row, least, comparePts) < 0 {
			least = row
		}
	}
	return least
}

func (ringKind) area(pts []Pt) int {
	sum := 0
	for i, p := range pts {
		next := pts[(i+1)%len(pts)]
		sum += p.X*next.Y - next.X*p.Y
	}
	return sum
}

func shapeKinds() []shapeKind {
	return []shapeKind{dotKind{}, lineKind{}, ringKind{}}
}

func kindOfNumber(number int) (shapeKind, bool) {
	for _, k := range shapeKinds() {
		if k.number() == number {
			return k, true
		}
	}
	return nil, false
}

func kindOfWord(word string) (shapeKind, bool) {
	for _, k := range shapeKinds() {
		if k.word() == word {
			return k, true
		}
	}
	return nil, false
}

// kindOfOk is the kind of a shape that is ok; of any other one there is none.
func kindOfOk(s Shape) (shapeKind, bool) {
	// The length is asked first: a row of any length may come in, and need not be walked.
	if len(s.Pts) > ShapeMost {
		return nil, false
	}
	k, ok := kindOfNumber(s.Kind)
	if !ok || !k.holds(s.Pts) || !rowOk(s.Pts) {
		return nil, false
	}
	return k, true
}

// rowOk says whether all points are in reach, and none is the same as the one right behind it.
func rowOk(pts []Pt) bool {
	for i, p := range pts {
		if !inReach(p.X, PtMost) || !inReach(p.Y, PtMost) {
			return false
		}
		if i > 0 && p == pts[i-1] {
			return false
		}
	}
	return true
}

func inReach(n int, most int) bool { return -most <= n && n <= most }

func comparePts(a Pt, b Pt) int {
	return cmp.Or(cmp.Compare(a.X, b.X), cmp.Compare(a.Y, b.Y))
}

// rowFrom is the points of a ring, begun at a place, in new memory.
func rowFrom(pts []Pt, place int) []Pt {
	return slices.Concat(pts[place:], pts[:place])
}

func ptText(p Pt) string {
	return strconv.Itoa(p.X) + "," + strconv.Itoa(p.Y)
}

func ptRead(text string) (Pt, bool) {
	left, right, _ := strings.Cut(text, ",")
	x, okX := numberRead(left)
	y, okY := numberRead(right)
	if !okX || !okY {
		return Pt{}, false
	}
	return Pt{X: x, Y: y}, true
}

// numberRead takes a number only as it is written here: writing it again tells needless zeros and signs.
func numberRead(text string) (int, bool) {
	n, err := strconv.Atoi(text)
	if err != nil || strconv.Itoa(n) != text {
		return 0, false
	}
	return n, true
}

// ShapeOk says whether a shape is one.
func ShapeOk(s Shape) bool {
	_, ok := kindOfOk(s)
	return ok
}

// ShapeSame says whether two shapes are one.
func ShapeSame(a Shape, b Shape) bool {
	return a.Kind == b.Kind && slices.Equal(a.Pts, b.Pts)
}

// ShapeMove is a shape moved.
func ShapeMove(s Shape, dx int, dy int) (Shape, bool) {
	// Both bounds are asked ahead of the sums, so that none of these can wrap round.
	if !ShapeOk(s) || !inReach(dx, 2*PtMost) || !inReach(dy, 2*PtMost) {
		return Shape{}, false
	}
	moved := Shape{Kind: s.Kind}
	for _, p := range s.Pts {
		moved.Pts = append(moved.Pts, Pt{X: p.X + dx, Y: p.Y + dy})
	}
	if !ShapeOk(moved) {
		return Shape{}, false
	}
	return moved, true
}

// ShapeBack is a shape, the last point first.
func ShapeBack(s Shape) Shape {
	if !ShapeOk(s) {
		return Shape{}
	}
	back := slices.Clone(s.Pts)
	slices.Reverse(back)
	return Shape{Kind: s.Kind, Pts: back}
}

// ShapeTurn is a ring that begins at its least point; all else as it is.
func ShapeTurn(s Shape) Shape {
	k, ok := kindOfOk(s)
	if !ok {
		return Shape{}
	}
	return Shape{Kind: s.Kind, Pts: k.turn(s.Pts)}
}

// ShapeArea is twice the area of a ring, below 0, if it goes round with the sun; 0 of all else.
func ShapeArea(s Shape) int {
	k, ok := kindOfOk(s)
	if !ok {
		return 0
	}
	return k.area(s.Pts)
}

// ShapeBox is the least and the greatest place of a shape, each way.
func ShapeBox(s Shape) (Pt, Pt) {
	if !ShapeOk(s) {
		return Pt{}, Pt{}
	}
	low, high := s.Pts[0], s.Pts[0]
	for _, p := range s.Pts {
		low = Pt{X: min(low.X, p.X), Y: min(low.Y, p.Y)}
		high = Pt{X: max(high.X, p.X), Y: max(high.Y, p.Y)}
	}
	return low, high
}

// ShapeText writes a shape.
func ShapeText(s Shape) string {
	k, ok := kindOfOk(s)
	if !ok {
		return ""
	}
	text := k.word()
	for _, p := range s.Pts {
		text += " " + ptText(p)
	}
	return text
}

// ShapeRead reads a shape.
func ShapeRead(text string) (Shape, bool) {
	if len(text) > shapeTextMost {
		return Shape{}, false
	}
	words := strings.Split(text, " ")
	k, ok := kindOfWord(words[0])
	if !ok {
		return Shape{}, false
	}
	s := Shape{Kind: k.number()}
	for _, w := range words[1:] {
		p, ok := ptRead(w)
		if !ok {
			return Shape{}, false
		}
		s.Pts = append(s.Pts, p)
	}
	if !ShapeOk(s) {
		return Shape{}, false
	}
	return s, true
}
