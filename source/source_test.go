package source_test

import (
	"slices"
	"strings"
	"testing"

	"thunkmill/api"
	"thunkmill/source"
	"thunkmill/testkit"
)

const maxInt = int(^uint(0) >> 1)
const minInt = -maxInt - 1

// example is the text of the chapter's table.
const example = "ab\n\tc"

// texts are those that the promises about any text are held against: ordinary ones, the edges, and such as Check refuses.
func texts() []string {
	all := []string{
		"",
		"\n",
		"\n\n\n",
		"\t",
		"\t\n\t",
		"a",
		"a\n",
		"\na",
		example,
		"f x = x\n  where\n\ty = 1\n\nmain = f 2\n",
		"1234567\t8\n12345678\t9\n123456789\tA",
		"a\t\tb \t c\t",
		" \t x",
		"\r\n\x00\x7f\x80\xff\tz",
		"\u00e9\t\u20ac\n\u20ac",
		"\xc3\n\xa9",
		strings.Repeat("\n", 100),
		strings.Repeat("x\t", 100),
	}
	return append(all, testkit.Words("a \t\n", 5)...)
}

// toldWhere reckons the line and column of a place as the chapter's words say, byte by byte.
func toldWhere(s string, at int) (line, col int) {
	line, col = 1, 1
	for i := range at {
		switch s[i] {
		case 10:
			line++
			col = 1
		case 9:
			col++
			for (col-1)%8 != 0 {
				col++
			}
		default:
			col++
		}
	}
	return line, col
}

func TestExamplesOfTheChapter(t *testing.T) {
	for _, x := range [][3]int{{0, 1, 1}, {3, 2, 1}, {4, 2, 9}, {5, 2, 10}} {
		if line, col, e := source.Where(example, x[0]); line != x[1] || col != x[2] || e != api.OK {
			t.Errorf("Where at %d: %d, %d, %v", x[0], line, col, e)
		}
	}
	if at, e := source.At(example, 2, 9); at != 4 || e != api.OK {
		t.Errorf("At 2, 9: %d, %v", at, e)
	}
	if at, e := source.At(example, 2, 5); at != 0 || e != api.ErrArg {
		t.Errorf("At 2, 5: %d, %v", at, e)
	}
	if col, e := source.Indent(example, 2); col != 9 || e != api.OK {
		t.Errorf("Indent of line 2: %d, %v", col, e)
	}
	if col, e := source.Indent("", 1); col != 0 || e != api.OK {
		t.Errorf("Indent of an empty line: %d, %v", col, e)
	}
	if f := source.Check("\r"); f != (api.Fault{Err: api.ErrLex, At: 0}) {
		t.Errorf("Check of a byte 13: %v", f)
	}
}

func TestCheckLength(t *testing.T) {
	tests := []struct {
		name string
		text string
		want api.Fault
	}{
		{"empty", "", api.Fault{}},
		{"one less", strings.Repeat("x", 65535), api.Fault{}},
		{"as long as may be", strings.Repeat("x", 65536), api.Fault{}},
		{"one more", strings.Repeat("x", 65537), api.Fault{Err: api.ErrLong, At: -1}},
		{"much more", strings.Repeat("x\n", 1<<20), api.Fault{Err: api.ErrLong, At: -1}},
		{"too long goes ahead of a wrong byte", "\x00" + strings.Repeat("x", 65536), api.Fault{Err: api.ErrLong, At: -1}},
		{"wrong as the last byte that may be", strings.Repeat("x", 65535) + "\x7f", api.Fault{Err: api.ErrLex, At: 65535}},
		{"long of lines' ends", strings.Repeat("\n", 65536), api.Fault{}},
		{"bytes are counted, not runes", strings.Repeat("\u00e9", 40000), api.Fault{Err: api.ErrLong, At: -1}},
	}
	for _, x := range tests {
		if got := source.Check(x.text); got != x.want {
			t.Errorf("%s: %v, want %v", x.name, got, x.want)
		}
	}
}

func TestCheckEachByte(t *testing.T) {
	for c := range 256 {
		want := api.Fault{Err: api.ErrLex, At: 2}
		if c == 9 || c == 10 || 32 <= c && c <= 126 {
			want = api.Fault{}
		}
		if got := source.Check("ab" + string([]byte{byte(c)}) + "c"); got != want {
			t.Errorf("byte %d: %v, want %v", c, got, want)
		}
	}
}

func TestCheckBytesBesideThoseThatMayBe(t *testing.T) {
	wrong := api.Fault{Err: api.ErrLex}
	for c, want := range map[byte]api.Fault{
		8: wrong, 9: {}, 10: {}, 11: wrong, 31: wrong, 32: {}, 33: {}, 125: {}, 126: {}, 127: wrong,
		0: wrong, 13: wrong, 128: wrong, 255: wrong,
	} {
		if got := source.Check(string([]byte{c})); got != want {
			t.Errorf("byte %d: %v, want %v", c, got, want)
		}
	}
}

func TestCheckTellsTheFirstWrongByte(t *testing.T) {
	tests := []struct {
		text string
		at   int
	}{
		{"\r", 0},
		{"ab\r\n\x00", 2},
		{"a\n\t\x1f\x7f", 3},
		{"main = '\u00e9'", 8},
		{"abc\xff", 3},
	}
	for _, x := range tests {
		if got := source.Check(x.text); got != (api.Fault{Err: api.ErrLex, At: x.at}) {
			t.Errorf("%q: %v, want ErrLex at %d", x.text, got, x.at)
		}
	}
}

func TestCheckOfAProgram(t *testing.T) {
	if got := source.Check("main = do\n\tputStrLn \"hi ~\"\n"); got != (api.Fault{}) {
		t.Errorf("%v", got)
	}
}

func TestLines(t *testing.T) {
	tests := []struct {
		text string
		want []string
	}{
		{"", []string{""}},
		{"a", []string{"a"}},
		{"\n", []string{"", ""}},
		{"a\n", []string{"a", ""}},
		{"\na", []string{"", "a"}},
		{"a\n\nb", []string{"a", "", "b"}},
		{"a\n\n", []string{"a", "", ""}},
		{example, []string{"ab", "\tc"}},
		{"a\r\nb\x0b\x0c\u2028c", []string{"a\r", "b\x0b\x0c\u2028c"}},
		{" \xff\n\x00", []string{" \xff", "\x00"}},
	}
	for _, x := range tests {
		if got := source.Lines(x.text); !slices.Equal(got, x.want) {
			t.Errorf("%q: %q, want %q", x.text, got, x.want)
		}
	}
}

func TestLinesOfATextThatIsTooLong(t *testing.T) {
	got := source.Lines(strings.Repeat("xyz\n", 50000))
	if len(got) != 50001 {
		t.Fatalf("%d lines", len(got))
	}
	if got[0] != "xyz" || got[49999] != "xyz" || got[50000] != "" {
		t.Errorf("%q .. %q, %q", got[0], got[49999], got[50000])
	}
}

func TestLinesAnswersNewMemory(t *testing.T) {
	a := source.Lines(example)
	b := source.Lines(example)
	a[0] = "changed"
	_ = append(a, "more")
	if !slices.Equal(b, []string{"ab", "\tc"}) {
		t.Errorf("%q", b)
	}
	if c := source.Lines(example); !slices.Equal(c, b) {
		t.Errorf("%q", c)
	}
}

func TestWhere(t *testing.T) {
	tests := []struct {
		text          string
		at, line, col int
	}{
		{example, 0, 1, 1},
		{example, 1, 1, 2},
		{example, 2, 1, 3}, // a line's end has the column behind the line
		{example, 3, 2, 1},
		{example, 4, 2, 9},
		{example, 5, 2, 10}, // behind the last byte
		{"", 0, 1, 1},
		{"a\n", 2, 2, 1}, // behind a line's end as the last byte
		{"\n\n", 0, 1, 1},
		{"\n\n", 1, 2, 1},
		{"\n\n", 2, 3, 1},
		{"\t", 1, 1, 9},
		{"\t\t", 2, 1, 17},
		{"123456\tx", 7, 1, 9},
		{"1234567\tx", 8, 1, 9}, // from column 8
		{"12345678\tx", 9, 1, 17},
		{"x\ty\tz", 4, 1, 17},
		{"x\n\t\n y", 5, 3, 2}, // a new line begins at 1 again
		{"\r\x00x", 2, 1, 3},
		{"\u00e9x", 2, 1, 3}, // each byte has a column
	}
	for _, x := range tests {
		line, col, e := source.Where(x.text, x.at)
		if line != x.line || col != x.col || e != api.OK {
			t.Errorf("%q at %d: %d, %d, %v, want %d, %d", x.text, x.at, line, col, e, x.line, x.col)
		}
	}
}

func TestWhereOfNoPlace(t *testing.T) {
	for _, s := range texts() {
		for _, at := range []int{-1, -2, minInt, len(s) + 1, len(s) + 2, maxInt} {
			line, col, e := source.Where(s, at)
			if line != 0 || col != 0 || e != api.ErrArg {
				t.Errorf("%q at %d: %d, %d, %v", s, at, line, col, e)
			}
		}
	}
}

func TestWhereIsAsTold(t *testing.T) {
	for _, s := range texts() {
		for at := range len(s) + 1 {
			line, col, e := source.Where(s, at)
			wantLine, wantCol := toldWhere(s, at)
			if line != wantLine || col != wantCol || e != api.OK {
				t.Errorf("%q at %d: %d, %d, %v, want %d, %d", s, at, line, col, e, wantLine, wantCol)
			}
		}
	}
}

func TestAt(t *testing.T) {
	tests := []struct {
		text          string
		line, col, at int
	}{
		{example, 1, 1, 0},
		{example, 1, 3, 2},
		{example, 2, 1, 3},
		{example, 2, 9, 4},
		{example, 2, 10, 5},
		{"", 1, 1, 0},
		{"a\n", 2, 1, 2},
		{"\n\n", 2, 1, 1},
		{"1234567\tx", 1, 9, 8},
		{"12345678\tx", 1, 9, 8},
		{"12345678\tx", 1, 17, 9},
		{"\xff\r", 1, 3, 2},
	}
	for _, x := range tests {
		if at, e := source.At(x.text, x.line, x.col); at != x.at || e != api.OK {
			t.Errorf("%q %d, %d: %d, %v, want %d", x.text, x.line, x.col, at, e, x.at)
		}
	}
}

func TestAtOfNoPlace(t *testing.T) {
	tests := []struct {
		text      string
		line, col int
	}{
		{example, 2, 5}, // within the tab
		{example, 2, 2},
		{example, 2, 8},
		{example, 2, 11},
		{example, 1, 0},
		{example, 1, -1},
		{example, 1, 4}, // behind the line's end
		{example, 0, 1},
		{example, -1, 1},
		{example, 3, 1},
		{example, 3, 0},
		{example, 0, 0},
		{example, maxInt, 1},
		{example, 1, maxInt},
		{example, minInt, 1},
		{example, 1, minInt},
		{"", 1, 0},
		{"", 1, 2},
		{"", 0, 1},
		{"", 2, 1},
		{"a\n", 3, 1},
		{"a\n", 2, 2},
		{"\ta", 1, 17},
	}
	for _, x := range tests {
		if at, e := source.At(x.text, x.line, x.col); at != 0 || e != api.ErrArg {
			t.Errorf("%q %d, %d: %d, %v", x.text, x.line, x.col, at, e)
		}
	}
}

// TestAtAnswersWhatHasThatLineAndColumn goes over all lines and columns of each text, and some beside.
func TestAtAnswersWhatHasThatLineAndColumn(t *testing.T) {
	for _, s := range texts() {
		places := map[[2]int]int{}
		widest := 1
		for at := range len(s) + 1 {
			line, col := toldWhere(s, at)
			places[[2]int{line, col}] = at
			widest = max(widest, col)
		}
		for line := -1; line <= strings.Count(s, "\n")+3; line++ {
			for col := -1; col <= widest+9; col++ {
				want, there := places[[2]int{line, col}]
				wantErr := api.ErrArg
				if there {
					wantErr = api.OK
				}
				if at, e := source.At(s, line, col); at != want || e != wantErr {
					t.Fatalf("%q %d, %d: %d, %v, want %d, %v", s, line, col, at, e, want, wantErr)
				}
			}
		}
	}
}

func TestIndent(t *testing.T) {
	tests := []struct {
		text      string
		line, col int
	}{
		{example, 1, 1},
		{example, 2, 9},
		{"a\n\nb", 2, 0}, // an empty line
		{"", 1, 0},
		{"a\n", 2, 0},
		{"a\n   \nb", 2, 0}, // the next line's bytes are not its own
		{"a\n\t \t\n", 2, 0},
		{"  x", 1, 3},
		{" \tx", 1, 9},
		{"\t x", 1, 10},
		{"       \tx", 1, 9},
		{"        \tx", 1, 17},
		{"x\n  y  z", 2, 3},
		{"  \r", 1, 3}, // any other byte ends it
		{" \x00", 1, 2},
		{"\t\xc2\xa0", 1, 9},
		{"!", 1, 1},
	}
	for _, x := range tests {
		if col, e := source.Indent(x.text, x.line); col != x.col || e != api.OK {
			t.Errorf("%q line %d: %d, %v, want %d", x.text, x.line, col, e, x.col)
		}
	}
}

func TestIndentOfNoLine(t *testing.T) {
	for _, s := range texts() {
		n := strings.Count(s, "\n") + 1
		for _, line := range []int{0, -1, minInt, n + 1, n + 2, maxInt} {
			if col, e := source.Indent(s, line); col != 0 || e != api.ErrArg {
				t.Errorf("%q line %d: %d, %v", s, line, col, e)
			}
		}
	}
}

func TestIndentIsTheColumnOfTheFirstByteThatCounts(t *testing.T) {
	for _, s := range texts() {
		want := make([]int, strings.Count(s, "\n")+1)
		for at := range len(s) {
			line, col := toldWhere(s, at)
			if want[line-1] == 0 && s[at] != 32 && s[at] != 9 && s[at] != 10 {
				want[line-1] = col
			}
		}
		for i, w := range want {
			if col, e := source.Indent(s, i+1); col != w || e != api.OK {
				t.Errorf("%q line %d: %d, %v, want %d", s, i+1, col, e, w)
			}
		}
	}
}

func TestAtOfWhereGivesThePlaceBack(t *testing.T) {
	long := strings.Repeat("a\tb  c\n\t\t", 30)
	for _, s := range append(texts(), long) {
		for at := range len(s) + 1 {
			line, col, e := source.Where(s, at)
			if e != api.OK {
				t.Fatalf("%q at %d: %v", s, at, e)
			}
			if back, e := source.At(s, line, col); back != at || e != api.OK {
				t.Errorf("%q at %d: back at %d, %v", s, at, back, e)
			}
		}
	}
}

func TestLinesJoinedAreTheText(t *testing.T) {
	for _, s := range texts() {
		all := source.Lines(s)
		if got := strings.Join(all, "\n"); got != s {
			t.Errorf("%q: %q", s, got)
		}
		if len(all) != strings.Count(s, "\n")+1 {
			t.Errorf("%q: %d lines", s, len(all))
		}
		for _, l := range all {
			if strings.Contains(l, "\n") {
				t.Errorf("%q: the line %q", s, l)
			}
		}
	}
}

func TestInALineColumnsRise(t *testing.T) {
	for _, s := range texts() {
		lastLine, lastCol := 0, 0
		for at := range len(s) + 1 {
			line, col, e := source.Where(s, at)
			if e != api.OK {
				t.Fatalf("%q at %d: %v", s, at, e)
			}
			if line == lastLine && col <= lastCol || line < lastLine || line > lastLine+1 {
				t.Errorf("%q at %d: %d, %d behind %d, %d", s, at, line, col, lastLine, lastCol)
			}
			lastLine, lastCol = line, col
		}
	}
}

func TestAtTheGreatestText(t *testing.T) {
	s := strings.Repeat("\t", 65536)
	line, col, e := source.Where(s, 65536)
	if line != 1 || col != 524289 || e != api.OK {
		t.Fatalf("%d, %d, %v", line, col, e)
	}
	if at, e := source.At(s, 1, 524289); at != 65536 || e != api.OK {
		t.Errorf("%d, %v", at, e)
	}
	if col, e := source.Indent(s, 1); col != 0 || e != api.OK {
		t.Errorf("%d, %v", col, e)
	}
	ends := strings.Repeat("\n", 65536)
	if line, col, e := source.Where(ends, 65536); line != 65537 || col != 1 || e != api.OK {
		t.Errorf("%d, %d, %v", line, col, e)
	}
	if at, e := source.At(ends, 65537, 1); at != 65536 || e != api.OK {
		t.Errorf("%d, %v", at, e)
	}
}
