package gf8

import (
	"go/ast"
	"go/parser"
	"go/token"
	"path/filepath"
	"strings"
	"testing"
)

// coefficients are a polynomial's over the field of two elements: place i has that of x^i.
type coefficients [15]bool

// fromByte lays an element's bits out as coefficients.
func fromByte(a byte) coefficients {
	var c coefficients
	for i := range 8 {
		c[i] = a>>i&1 == 1
	}
	return c
}

// onPaper multiplies two elements as a person would: the whole product first, then what is above x^7 is taken away, from the top.
func onPaper(a, b byte) byte {
	x, y := fromByte(a), fromByte(b)
	var product coefficients
	for i := range 8 {
		for j := range 8 {
			product[i+j] = product[i+j] != (x[i] && y[j])
		}
	}
	for top := 14; top >= 8; top-- {
		if product[top] {
			for _, place := range []int{8, 4, 3, 1, 0} {
				product[top-8+place] = !product[top-8+place]
			}
		}
	}
	var rest byte
	for i := range 8 {
		if product[i] {
			rest |= 1 << i
		}
	}
	return rest
}

// products are all that Mul answers, so that laws of three elements can be asked of all triples.
func products() *[256][256]byte {
	var all [256][256]byte
	for a := range 256 {
		for b := range 256 {
			all[a][b] = Mul(byte(a), byte(b))
		}
	}
	return &all
}

func TestMulIsTheProductOnPaper(t *testing.T) { // P4.1
	for a := range 256 {
		for b := range 256 {
			if got, want := Mul(byte(a), byte(b)), onPaper(byte(a), byte(b)); got != want {
				t.Fatalf("Mul(%#x, %#x) = %#x, want %#x", a, b, got, want)
			}
		}
	}
}

func TestInvIsTheOneWhoseProductIsOne(t *testing.T) { // P4.2
	if got := Inv(0); got != 0 {
		t.Errorf("Inv(0) = %#x, want 0", got)
	}
	for a := 1; a < 256; a++ {
		found := 0
		for b := range 256 {
			if onPaper(byte(a), byte(b)) == 1 {
				found++
				if got := Inv(byte(a)); got != byte(b) {
					t.Errorf("Inv(%#x) = %#x, want %#x", a, got, b)
				}
			}
		}
		if found != 1 {
			t.Fatalf("%#x has %d inverses on paper", a, found)
		}
	}
}

// inverseOnPaper looks for the element whose product with a is 1.
func inverseOnPaper(a byte) byte {
	for b := range 256 {
		if onPaper(a, byte(b)) == 1 {
			return byte(b)
		}
	}
	return 0
}

// boxOnPaper makes the S-box bit by bit, as P4.3 says it.
func boxOnPaper(a byte) byte {
	y := inverseOnPaper(a)
	var box byte
	for i := range 8 {
		bit := byte(99) >> i & 1
		for _, further := range []int{0, 4, 5, 6, 7} {
			bit ^= y >> ((i + further) % 8) & 1
		}
		box |= bit << i
	}
	return box
}

// standard is the S-box as the cipher's standard prints it.
const standard = `
63 7c 77 7b f2 6b 6f c5 30 01 67 2b fe d7 ab 76
ca 82 c9 7d fa 59 47 f0 ad d4 a2 af 9c a4 72 c0
b7 fd 93 26 36 3f f7 cc 34 a5 e5 f1 71 d8 31 15
04 c7 23 c3 18 96 05 9a 07 12 80 e2 eb 27 b2 75
09 83 2c 1a 1b 6e 5a a0 52 3b d6 b3 29 e3 2f 84
53 d1 00 ed 20 fc b1 5b 6a cb be 39 4a 4c 58 cf
d0 ef aa fb 43 4d 33 85 45 f9 02 7f 50 3c 9f a8
51 a3 40 8f 92 9d 38 f5 bc b6 da 21 10 ff f3 d2
cd 0c 13 ec 5f 97 44 17 c4 a7 7e 3d 64 5d 19 73
60 81 4f dc 22 2a 90 88 46 ee b8 14 de 5e 0b db
e0 32 3a 0a 49 06 24 5c c2 d3 ac 62 91 95 e4 79
e7 c8 37 6d 8d d5 4e a9 6c 56 f4 ea 65 7a ae 08
ba 78 25 2e 1c a6 b4 c6 e8 dd 74 1f 4b bd 8b 8a
70 3e b5 66 48 03 f6 0e 61 35 57 b9 86 c1 1d 9e
e1 f8 98 11 69 d9 8e 94 9b 1e 87 e9 ce 55 28 df
8c a1 89 0d bf e6 42 68 41 99 2d 0f b0 54 bb 16`

func TestBoxIsThatOfTheBits(t *testing.T) { // P4.3
	for a := range 256 {
		if got, want := Box(byte(a)), boxOnPaper(byte(a)); got != want {
			t.Errorf("Box(%#x) = %#x, want %#x", a, got, want)
		}
	}
}

func TestBoxIsThatOfTheStandard(t *testing.T) { // P4.3, P4.4
	printed := strings.Fields(standard)
	if len(printed) != 256 {
		t.Fatalf("%d boxes are printed", len(printed))
	}
	for a, text := range printed {
		var want byte
		for _, r := range text {
			want = want<<4 | byte(strings.IndexRune("0123456789abcdef", r))
		}
		if got := Box(byte(a)); got != want {
			t.Errorf("Box(%#x) = %#x, want %#x", a, got, want)
		}
		if got := Back(want); got != byte(a) {
			t.Errorf("Back(%#x) = %#x, want %#x", want, got, a)
		}
	}
}

func TestBackIsTheByteWhoseBoxItIs(t *testing.T) { // P4.4
	for a := range 256 {
		if got := Back(boxOnPaper(byte(a))); got != byte(a) {
			t.Errorf("Back(%#x) = %#x, want %#x", boxOnPaper(byte(a)), got, a)
		}
	}
}

func TestMulIsTheSameEitherWayRound(t *testing.T) { // P4.5
	for a := range 256 {
		for b := range a {
			if x, y := Mul(byte(a), byte(b)), Mul(byte(b), byte(a)); x != y {
				t.Fatalf("Mul(%#x, %#x) = %#x, the other way round %#x", a, b, x, y)
			}
		}
	}
}

func TestBracketsAndSums(t *testing.T) { // P4.5
	mul := products()
	for a := range 256 {
		for b := range 256 {
			for c := range 256 {
				if mul[mul[a][b]][c] != mul[a][mul[b][c]] {
					t.Fatalf("brackets matter at %#x, %#x, %#x", a, b, c)
				}
				if mul[a][b^c] != mul[a][b]^mul[a][c] {
					t.Fatalf("%#x does not go over the sum of %#x and %#x", a, b, c)
				}
			}
		}
	}
}

func TestOneAndNought(t *testing.T) { // P4.5, and P4.1 at 0
	for a := range 256 {
		x := byte(a)
		if Mul(1, x) != x || Mul(x, 1) != x {
			t.Errorf("Mul by 1 changes %#x", a)
		}
		if Mul(0, x) != 0 || Mul(x, 0) != 0 {
			t.Errorf("Mul of %#x by 0 is not 0", a)
		}
	}
}

func TestInvOfInv(t *testing.T) { // P4.5
	for a := range 256 {
		if got := Inv(Inv(byte(a))); got != byte(a) {
			t.Errorf("Inv of Inv of %#x = %#x", a, got)
		}
	}
}

func TestBoxTakesEachByteOnce(t *testing.T) { // P4.5
	var times [256]int
	for a := range 256 {
		times[Box(byte(a))]++
	}
	for x, n := range times {
		if n != 1 {
			t.Errorf("Box takes %#x %d times", x, n)
		}
	}
}

func TestBoxAndBackUndoEachOther(t *testing.T) { // P4.5
	for a := range 256 {
		x := byte(a)
		if got := Back(Box(x)); got != x {
			t.Errorf("Back of Box of %#x = %#x", a, got)
		}
		if got := Box(Back(x)); got != x {
			t.Errorf("Box of Back of %#x = %#x", a, got)
		}
	}
}

func TestNoByteIsItsOwnBox(t *testing.T) { // P4.5
	for a := range 256 {
		if x := byte(a); Box(x) == x || Box(x) == ^x {
			t.Errorf("Box(%#x) = %#x", a, Box(x))
		}
	}
}

func TestExamples(t *testing.T) { // the chapter's
	for _, c := range [][3]byte{{0x57, 0x83, 0xc1}, {0x57, 0x13, 0xfe}, {2, 0x80, 0x1b}, {7, 0, 0}} {
		if got := Mul(c[0], c[1]); got != c[2] {
			t.Errorf("Mul(%#x, %#x) = %#x, want %#x", c[0], c[1], got, c[2])
		}
	}
	for _, c := range [][2]byte{{0, 0}, {1, 1}, {0x53, 0xca}, {0xca, 0x53}} {
		if got := Inv(c[0]); got != c[1] {
			t.Errorf("Inv(%#x) = %#x, want %#x", c[0], got, c[1])
		}
	}
	for _, c := range [][2]byte{{0, 0x63}, {1, 0x7c}, {0x53, 0xed}, {0xff, 0x16}} {
		if got := Box(c[0]); got != c[1] {
			t.Errorf("Box(%#x) = %#x, want %#x", c[0], got, c[1])
		}
	}
	for _, c := range [][2]byte{{0x63, 0}, {0xed, 0x53}} {
		if got := Back(c[0]); got != c[1] {
			t.Errorf("Back(%#x) = %#x, want %#x", c[0], got, c[1])
		}
	}
}

// asking tells what of a piece of code would hang on a byte, "" if nothing does.
func asking(n ast.Node) string {
	switch x := n.(type) {
	case *ast.IfStmt:
		return "an if"
	case *ast.SwitchStmt:
		return "a switch"
	case *ast.ForStmt:
		return "a loop with a condition"
	case *ast.RangeStmt:
		if number, ok := x.X.(*ast.BasicLit); !ok || number.Kind != token.INT {
			return "a range over what is no written number"
		}
	case *ast.IndexExpr:
		return "a place looked up"
	case *ast.CompositeLit:
		return "a table"
	case *ast.BinaryExpr:
		if strings.Contains(" && || == != < <= > >= ", " "+x.Op.String()+" ") {
			return "a comparison"
		}
		if x.Op == token.QUO || x.Op == token.REM {
			return "a division"
		}
	case *ast.ImportSpec:
		if x.Path.Value != `"math/bits"` {
			return "a package to lean on"
		}
	}
	return ""
}

func TestNothingAsksWhatAByteIs(t *testing.T) { // what stands ahead of the chapter's words
	names, err := filepath.Glob("*.go")
	if err != nil {
		t.Fatal(err)
	}
	looked := 0
	files := token.NewFileSet()
	for _, name := range names {
		if strings.HasSuffix(name, "_test.go") {
			continue
		}
		file, err := parser.ParseFile(files, name, nil, 0)
		if err != nil {
			t.Fatal(err)
		}
		looked++
		ast.Inspect(file, func(n ast.Node) bool {
			if what := asking(n); what != "" {
				t.Errorf("%s: %s", files.Position(n.Pos()), what)
			}
			return true
		})
	}
	if looked == 0 {
		t.Error("no file was looked at")
	}
}
