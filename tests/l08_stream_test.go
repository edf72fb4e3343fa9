package tests

import (
	"math"
	"slices"
	"strings"
	"testing"
	"unsafe"

	"loop.example/g00819/impl"
)

// streamConfigs differ in what closes a line, and in how it is laid.
var streamConfigs = []impl.Config{ordinaryConfig, escapesConfig, withFlags(dotsConfig, rightBit|linesBit|escapesBit|markupBit), withFlags(tabConfig, dropBit|markupBit)}

// holding returns a writer that holds a text.
func holding(c impl.Config, held string) impl.Writer {
	return impl.Writer{Config: c, Held: held}
}

// layoutOf is the layout of a text by the definitions of the tests.
func layoutOf(c impl.Config, text string) string {
	return layLines(c, linesOf(c, text))
}

// written is what WriteText returns by the definitions of the tests.
func written(w impl.Writer, chunk string) (impl.Writer, string, int) {
	if !isConfig(w.Config) {
		return w, "", 1
	}
	text := w.Held + chunk
	closed := closedLength(w.Config, text)
	if len(text)-closed > 400 {
		return w, "", 2
	}
	return holding(w.Config, text[closed:]), layoutOf(w.Config, text[:closed]), 0
}

// checkWrite compares WriteText with the definitions.
func checkWrite(t *testing.T, w impl.Writer, chunk string) {
	t.Helper()
	next, passed, code := impl.WriteText(w, chunk)
	wantNext, wantPassed, wantCode := written(w, chunk)
	if next != wantNext || passed != wantPassed || code != wantCode {
		t.Fatalf("WriteText(%+v, %q) = %+v, %q, %d, want %+v, %q, %d", w, chunk, next, passed, code, wantNext, wantPassed, wantCode)
	}
}

// flushed is what FlushText returns by the definitions of the tests.
func flushed(w impl.Writer) (impl.Writer, string, int) {
	if !isConfig(w.Config) {
		return w, "", 1
	}
	return holding(w.Config, ""), layoutOf(w.Config, w.Held), 0
}

// checkFlush compares FlushText and Pending with the definitions.
func checkFlush(t *testing.T, w impl.Writer) {
	t.Helper()
	wantNext, wantPassed, wantCode := flushed(w)
	next, passed, code := impl.FlushText(w)
	if next != wantNext || passed != wantPassed || code != wantCode {
		t.Fatalf("FlushText(%+v) = %+v, %q, %d, want %+v, %q, %d", w, next, passed, code, wantNext, wantPassed, wantCode)
	}
	if got := impl.Pending(w); got != wantPassed {
		t.Fatalf("Pending(%+v) = %q, want %q", w, got, wantPassed)
	}
}

// checkChunks is P4: after each chunk, the layout of all closed lines that have arrived has been passed on, and none of them is held; in the end, what was passed on is the layout of the text.
func checkChunks(t *testing.T, c impl.Config, chunks []string) {
	t.Helper()
	w, code := impl.NewWriter(c)
	if w != holding(c, "") || code != 0 {
		t.Fatalf("NewWriter(%s) = %+v, %d", configText(c), w, code)
	}
	arrived, passed := "", ""
	for _, chunk := range chunks {
		next, layout, code := impl.WriteText(w, chunk)
		w, arrived, passed = next, arrived+chunk, passed+layout
		closed := closedLength(c, arrived)
		if code != 0 || w != holding(c, arrived[closed:]) || passed != layoutOf(c, arrived[:closed]) {
			t.Fatalf("with %s, %q was passed on and %+v is left after %q (%d) of the chunks %q", configText(c), passed, w, chunk, code, chunks)
		}
	}
	pending := impl.Pending(w)
	last, rest, code := impl.FlushText(w)
	if code != 0 || rest != pending || last != holding(c, "") || passed+rest != layoutOf(c, arrived) {
		t.Fatalf("with %s, %q was passed on, then %q, and %+v is left of the chunks %q", configText(c), passed, rest, last, chunks)
	}
	w, _ = impl.NewWriter(c)
	if all, together, n := impl.WriteAll(w, chunks); n != len(chunks) || together != passed || impl.Pending(all) != pending {
		t.Fatalf("with %s, WriteAll passes on %q of the %d chunks %q, and leaves %+v", configText(c), together, n, chunks, all)
	}
}

// eachCutting calls a function with all ways to cut a text into chunks that are not empty.
func eachCutting(text string, f func(chunks []string)) {
	if text == "" {
		f(nil)
		return
	}
	for cuts := range 1 << (len(text) - 1) {
		var chunks []string
		from := 0
		for i := 1; i < len(text); i++ {
			if cuts>>(i-1)&1 != 0 {
				chunks, from = append(chunks, text[from:i]), i
			}
		}
		f(append(chunks, text[from:]))
	}
}

// chunksOf cuts a text into chunks of the same length; the last one may be shorter.
func chunksOf(text string, n int) []string {
	var chunks []string
	for len(text) > n {
		chunks, text = append(chunks, text[:n]), text[n:]
	}
	return append(chunks, text)
}

func TestWriterConstants(t *testing.T) {
	if impl.MaxHeld != 400 || impl.WrOk != 0 || impl.WrConfig != 1 || impl.WrHeld != 2 {
		t.Errorf("MaxHeld is %d, and the codes are %d, %d and %d", impl.MaxHeld, impl.WrOk, impl.WrConfig, impl.WrHeld)
	}
}

func TestNewWriter(t *testing.T) {
	for _, c := range append(configsAround(), allLayoutConfigs...) {
		want, wantCode := impl.Writer{}, 1
		if isConfig(c) {
			want, wantCode = holding(c, ""), 0
		}
		if w, code := impl.NewWriter(c); w != want || code != wantCode {
			t.Fatalf("NewWriter(%+v) = %+v, %d, want %+v, %d", c, w, code, want, wantCode)
		}
	}
}

func TestWriteText(t *testing.T) {
	for _, x := range []struct {
		c                         impl.Config
		held, chunk, left, passed string
	}{
		// Nothing is closed.
		{ordinaryConfig, "", "", "", ""},
		{ordinaryConfig, "", "a", "a", ""},
		{ordinaryConfig, "", "a\tb\nlong", "a\tb\nlong", ""},
		{ordinaryConfig, "a\t", "b", "a\tb", ""},
		{ordinaryConfig, "a", "\t\n", "a\t\n", ""},
		{ordinaryConfig, "a\tb\n", "", "a\tb\n", ""},
		{ordinaryConfig, "a\tb\n", "\t\n\t\n", "a\tb\n\t\n\t\n", ""},
		// A line without cells, and a form feed.
		{ordinaryConfig, "", "\n", "", "\n"},
		{ordinaryConfig, "", "a\n", "", "a\n"},
		{ordinaryConfig, "", "\f", "", "\n"},
		{ordinaryConfig, "a", "\n", "", "a\n"},
		{ordinaryConfig, "a", "b\nc", "c", "ab\n"},
		{ordinaryConfig, "a\tb\nlong", "\tc\nend\nx\t", "x\t", "a    b\nlong c\nend\n"},
		{ordinaryConfig, "a\tb\n", "\n", "", "a b\n\n"},
		{ordinaryConfig, "a\tb\n", "\f", "", "a b\n\n"},
		{ordinaryConfig, "a\tb", "\f", "", "a b\n"},
		{ordinaryConfig, "a\t", "b\flong\tc\n", "long\tc\n", "a b\n"},
		{ordinaryConfig, "", "a\tb\flong\tc\n\nd\te", "d\te", "a b\nlong c\n\n"},
		{rightLined, "a\tb\nlong", "\tc\nend\nx\t", "x\t", "    a|b\n long|c\nend\n"},
		{shortTabs, "a\tb\nlong", "\tc\n\f\f\t", "\t", "a\t\tb\nlong\tc\n\n\n"},
		// The last closed line decides, wherever the chunk begins.
		{ordinaryConfig, "", "a\nb\nc\nd", "d", "a\nb\nc\n"},
		{ordinaryConfig, "", "a\n\tb\nc\n\td", "\td", "a\n b\nc\n"},
		{ordinaryConfig, "a\t\n", "b\t\nc\n", "", "a \nb \nc\n"},
		// What is held is closed already.
		{ordinaryConfig, "a\nb", "", "b", "a\n"},
		{ordinaryConfig, "a\nb", "c", "bc", "a\n"},
		{ordinaryConfig, "a\tb\f", "", "", "a b\n"},
		{ordinaryConfig, "a\tb\flong\t", "c\n", "long\tc\n", "a b\n"},
		{ordinaryConfig, "a\nb", "\t\nc\n", "", "a\nb \nc\n"},
		// Chunks that divide a character.
		{ordinaryConfig, "", "\xe4\xb8", "\xe4\xb8", ""},
		{ordinaryConfig, "\xe4", "\xb8\xad\t|\nx\n", "", "\u4e2d |\nx\n"},
		{ordinaryConfig, "x\t\n\xe4\xb8", "\xad\t|\n\n", "", "x  \n\u4e2d |\n\n"},
		{ordinaryConfig, "xx\t\ne", "\u0301\t|\n\n", "", "xx \ne\u0301  |\n\n"},
		// Chunks that divide a tag and an entity.
		{markupConfig, "", "<b", "<b", ""},
		{markupConfig, "xxx\t\n<", "b>a</b>\t|\n\n", "", "xxx \n<b>a</b>   |\n\n"},
		{markupConfig, "xxx\t\n&l", "t;\t|\n\n", "", "xxx \n&lt;   |\n\n"},
		{markupConfig, "<b", "\n>\t", ">\t", "<b\n"},
		{ordinaryConfig, "x\t\n<", "b>\t|\n\n", "", "x   \n<b> |\n\n"},
		// Chunks that divide escaped text, the marks of which are held.
		{escapesConfig, "", "\xff", "\xff", ""},
		{escapesConfig, "", "\xffa\n", "\xffa\n", ""},
		{escapesConfig, "\xffa\n", "b\n", "\xffa\nb\n", ""},
		{escapesConfig, "\xffa\n", "\f\xff", "\xffa\n\f\xff", ""},
		{escapesConfig, "\xffa\n", "\xff\nb", "b", "a\n\n"},
		{escapesConfig, "\xffa\t", "\xff\nb", "b", "a\t\n"},
		{escapesConfig, "\xff\f\xff", "\t\n", "\xff\f\xff\t\n", ""},
		{escapesConfig, "a\n\xff", "\n", "\xff\n", "a\n"},
		{escapesConfig, "", "a\n\xff\xff\n\xff\f", "\xff\f", "a\n\n"},
		{ordinaryConfig, "\xff", "a\nb\n\xff", "\xff", "\xffa\nb\n"},
		{bothConfig, "\xff<\xff\t", "b\n\xff>", "\xff<\xff\tb\n\xff>", ""},
		{bothConfig, "<\xff\n", "\xff>\t|\n\n", "", "<\n> |\n\n"},
	} {
		w := holding(x.c, x.held)
		next, passed, code := impl.WriteText(w, x.chunk)
		if next != holding(x.c, x.left) || passed != x.passed || code != 0 {
			t.Errorf("WriteText(%q, %q) with %s = %q, %q, %d, want %q, %q", x.held, x.chunk, configText(x.c), next.Held, passed, code, x.left, x.passed)
		}
		checkWrite(t, w, x.chunk)
	}
}

// The rest may have 400 bytes, wherever they come from; only the rest counts.
func TestWriteTextWithLongRests(t *testing.T) {
	const x = "x"
	for _, c := range streamConfigs {
		for rest := 398; rest <= 402; rest++ {
			wantCode := 0
			if rest > 400 {
				wantCode = 2
			}
			for _, held := range []int{0, 1, 200, 398, 399, 400, 401, 402} {
				if held > rest {
					continue
				}
				w, chunk := holding(c, strings.Repeat(x, held)), strings.Repeat(x, rest-held)
				want := w
				if wantCode == 0 {
					want.Held += chunk
				}
				if next, passed, code := impl.WriteText(w, chunk); next != want || passed != "" || code != wantCode {
					t.Errorf("%d bytes are held and %d are written: %d bytes are held, %q is passed on, and the code is %d", held, rest-held, len(next.Held), passed, code)
				}
			}
			// Closed lines before the rest, which are in the chunk, in what is held, or in both.
			for _, before := range []struct {
				held, chunk string
				open        int
			}{
				{"", "a\n", 0}, {"a", "\n", 0}, {"a\n", "", 0}, {"a\tb\n", "\f", 0}, {"a\n" + strings.Repeat(x, 397), "", 397}, {strings.Repeat(x, 400), "\n", 0}, {"", strings.Repeat("a\tb\n", 150) + "\n", 0},
			} {
				w, chunk := holding(c, before.held), before.chunk+strings.Repeat(x, rest-before.open)
				checkWrite(t, w, chunk)
				next, passed, code := impl.WriteText(w, chunk)
				if code != wantCode || (code == 0) != (passed != "") || (code == 0) != (len(next.Held) == rest) || code != 0 && next != w {
					t.Errorf("with a rest of %d bytes, %q and %.9q.. leave %d bytes, pass on %.9q.. and have the code %d", rest, before.held, chunk, len(next.Held), passed, code)
				}
			}
		}
	}
}

// The bytes of the rest count, and not its characters, its display columns or its cells.
func TestBytesOfRests(t *testing.T) {
	for _, piece := range []string{"\t", "a\t\n", "\u4e2d", "\u0301", "\U0001f600", "<b>", "&lt;", "\x00", "\xfe", "\xff", "\xff\n\xff", "\xff\f\t\xff"} {
		for _, c := range streamConfigs {
			for length := 395; length <= 405; length++ {
				// The text begins with a cell, so that the line in which it is remains open.
				text := "\t" + strings.Repeat(piece, (length-1)/len(piece))
				text += strings.Repeat("a", length-len(text))
				for _, cut := range []int{0, 1, 200, 394} {
					checkWrite(t, holding(c, text[:cut]), text[cut:])
				}
			}
		}
	}
}

// A writer that holds too much already can go on if enough of it is closed.
func TestWritersThatHoldTooMuch(t *testing.T) {
	x := strings.Repeat("x", 400)
	for _, y := range []struct {
		held, chunk string
		code        int
		left        string
	}{
		{x, "", 0, x},
		{x + "x", "", 2, ""},
		{x + "x", "y", 2, ""},
		{x + "x", "\n", 0, ""},
		{x + "x", "\ny\t", 0, "y\t"},
		{x + "x", "\n" + x, 0, x},
		{x + "x", "\n" + x + "x", 2, ""},
		{x + "x", "\t\n", 2, ""},
		{x + "x", "\t\f", 0, ""},
		{x + x + x, "\n", 0, ""},
		{x + x + x, "\ty", 2, ""},
		{"\n" + x, "", 0, x},
		{"\n" + x, "x", 2, ""},
		{"\n" + x + "x", "", 2, ""},
		{"\n" + x + "x", "\f", 0, ""},
		{x + "\n" + x, "", 0, x},
		{x + x + "\n", "y", 0, "y"},
		{x + "\t\n" + x, "", 2, ""},
		{x + "\t\f" + x, "", 0, x},
		{x + "\t\f" + x, "x", 2, ""},
	} {
		for _, c := range streamConfigs {
			w := holding(c, y.held)
			want := w
			if y.code == 0 {
				want.Held = y.left
			}
			if next, _, code := impl.WriteText(w, y.chunk); next != want || code != y.code {
				t.Errorf("%d bytes and %.9q.. leave %d bytes, with the code %d, want %d and %d", len(y.held), y.chunk, len(next.Held), code, len(want.Held), y.code)
			}
			checkWrite(t, w, y.chunk)
			checkFlush(t, w)
		}
	}
}

func TestWriteTextByDefinition(t *testing.T) {
	for _, s := range append(textsOver("a\t\n\f\xff", 5), textsOfPieces(cellPieces, 3)...) {
		for _, c := range streamConfigs {
			for i := range len(s) + 1 {
				checkWrite(t, holding(c, s[:i]), s[i:])
			}
			checkFlush(t, holding(c, s))
		}
	}
}

func TestFlushText(t *testing.T) {
	for _, x := range []struct {
		c            impl.Config
		held, passed string
	}{
		{ordinaryConfig, "", ""},
		{ordinaryConfig, "a", "a"},
		{ordinaryConfig, "a\t", "a "},
		{ordinaryConfig, "a\tb\nlong\tc", "a    b\nlong c"},
		{ordinaryConfig, "a\tb\nlong\tc\n", "a    b\nlong c\n"},
		{ordinaryConfig, "\n", "\n"},
		{ordinaryConfig, "\f", "\n"},
		{ordinaryConfig, "a\tb\flong\tc", "a b\nlong c"},
		{ordinaryConfig, "a\nb\tc\n\nd", "a\nb c\n\nd"},
		{ordinaryConfig, "\xe4\xb8", "\xe4\xb8"},
		{rightLined, "a\t\nlong\tc", "    a|\n long|c"},
		{markupConfig, "x\t\n<b", "x \n<b"},
		{markupConfig, "xxx\t\n<b>\t|", "xxx \n<b>    |"},
		{escapesConfig, "a\xff\tb\n", "a\tb\n"},
		{escapesConfig, "\xff", ""},
		{escapesConfig, "a\t\n\xff\n\xff\tb", "a \n\n  b"},
		{ordinaryConfig, strings.Repeat("x", 401), strings.Repeat("x", 401)},
	} {
		w := holding(x.c, x.held)
		next, passed, code := impl.FlushText(w)
		if next != holding(x.c, "") || passed != x.passed || code != 0 || impl.Pending(w) != x.passed {
			t.Errorf("FlushText(%q) with %s = %q, %q, %d, and Pending %q, want %q", x.held, configText(x.c), next.Held, passed, code, impl.Pending(w), x.passed)
		}
		checkFlush(t, w)
		// Nothing is left for a second time, and the writer can be used further.
		again, rest, code := impl.FlushText(next)
		if again != next || rest != "" || code != 0 || impl.Pending(next) != "" {
			t.Errorf("FlushText after FlushText(%q) = %+v, %q, %d", x.held, again, rest, code)
		}
		checkWrite(t, next, "a\tb\f")
	}
}

func TestWritersOfConfigs(t *testing.T) {
	const s = "a\tb\n\tc\f\xff\td\n\xff<b>\t\n&lt;\t.\xff\n\u4e2d\t\te\u0301\naaaaaaaa\t"
	for bits := range 32 {
		for _, c := range []impl.Config{plainConfig, tabConfig, shortTabs, {Min: 200, Tab: 32, Padding: 32, Pad: 124}, {Min: 9, Tab: 5, Padding: 0, Pad: 9}, {Tab: 1, Pad: 32}} {
			c = withFlags(c, bits)
			c.Right = c.Right && c.Pad != 9
			for n := 1; n <= len(s); n++ {
				checkChunks(t, c, chunksOf(s, n))
			}
		}
	}
}

// P4 for all ways to cut short texts, with and without empty chunks.
func TestTextsCutIntoChunks(t *testing.T) {
	for _, s := range textsOver("a\t\n\f\xff", 4) {
		for _, c := range streamConfigs {
			eachCutting(s, func(chunks []string) {
				checkChunks(t, c, chunks)
			})
		}
	}
	for _, s := range []string{"a\t\nb\n\t", "\xffa\n\xff\n\xff\f", "<b>\t\n&;\n", "\u4e2d\t\f\u0301\n"} {
		for _, c := range streamConfigs {
			eachCutting(s, func(chunks []string) {
				checkChunks(t, c, chunks)
				spread := []string{""}
				for _, chunk := range chunks {
					spread = append(spread, chunk, "", "")
				}
				checkChunks(t, c, spread)
			})
		}
	}
}

// P4 for chunks of one byte, which divide all characters, tags, entities and escapes.
func TestTextsCutIntoBytes(t *testing.T) {
	for _, s := range textsOfPieces(cellPieces, 3) {
		for _, c := range streamConfigs {
			checkChunks(t, c, chunksOf(s, 1))
		}
	}
}

// P4 for a long text, of which not more is held than may be, and which is cut into chunks of many lengths.
func TestLongTextsCutIntoChunks(t *testing.T) {
	text := ""
	for i := range 40 {
		text += strings.Repeat("a\t\u4e2d\tlong\t<b>c</b>\n", i%18) + strings.Repeat("\xff\n\xffx&lt;", i%7) + "\f"[i%2:] + "\n" + strings.Repeat("y", 3*i) + "\n"
	}
	for _, c := range streamConfigs {
		want := impl.Layout(c, text)
		for n := 1; n <= len(text)+1; n += 1 + n/10 {
			w, _ := impl.NewWriter(c)
			passed := ""
			for _, chunk := range chunksOf(text, n) {
				next, layout, code := impl.WriteText(w, chunk)
				if code != 0 || len(next.Held) > 400 || impl.ClosedLength(c, next.Held) != 0 {
					t.Fatalf("with %s, chunks of %d bytes have the code %d and leave %q", configText(c), n, code, next.Held)
				}
				w, passed = next, passed+layout
				if !strings.HasPrefix(want, passed) {
					t.Fatalf("with %s and chunks of %d bytes, %q is no beginning of the layout", configText(c), n, passed)
				}
			}
			if got := passed + impl.Pending(w); got != want {
				t.Fatalf("with %s and chunks of %d bytes, %q is passed on, want %q", configText(c), n, got, want)
			}
		}
	}
}

// P4: nothing is held that could have been passed on, as what follows can still change the first line that is held.
func TestHeldLinesCanChange(t *testing.T) {
	firstLine := func(text string) string {
		line, _, _ := strings.Cut(impl.Layout(rightConfig, text), "\n")
		return line
	}
	for _, s := range textsOver("a\t\n\f", 7) {
		w, _, _ := impl.WriteText(holding(rightConfig, ""), s)
		if w.Held == "" {
			continue
		}
		open := w.Held[strings.LastIndex(w.Held, "\n")+1:]
		follows := "wide cell\t"
		if strings.Contains(open, "\t") {
			follows = "\n" + follows
		}
		if firstLine(w.Held) == firstLine(w.Held+follows) {
			t.Fatalf("of %q, %q is held, although %q does not change the first line of it", s, w.Held, follows)
		}
	}
}

func TestWriteAll(t *testing.T) {
	x := strings.Repeat("x", 400)
	for _, y := range []struct {
		c            impl.Config
		held         string
		chunks       []string
		left, passed string
		accepted     int
	}{
		{ordinaryConfig, "", nil, "", "", 0},
		{ordinaryConfig, "", []string{}, "", "", 0},
		{ordinaryConfig, "a\t", nil, "a\t", "", 0},
		// Without a chunk, nothing is passed on, even if it is closed.
		{ordinaryConfig, "a\n", nil, "a\n", "", 0},
		{ordinaryConfig, x + "x", nil, x + "x", "", 0},
		{ordinaryConfig, "a\n", []string{""}, "", "a\n", 1},
		{ordinaryConfig, "", []string{"", "", ""}, "", "", 3},
		{ordinaryConfig, "", []string{"a\n", "b\n"}, "", "a\nb\n", 2},
		{ordinaryConfig, "a\tb\n", []string{"long", "\tc\n", "end", "\nx\t"}, "x\t", "a    b\nlong c\nend\n", 4},
		{ordinaryConfig, "", []string{"a\tb\n\n", "long\tc", "\n\n", "d"}, "d", "a b\n\nlong c\n\n", 4},
		{ordinaryConfig, "\xe4", []string{"\xb8", "\xad\t|", "\f"}, "", "\u4e2d |\n", 3},
		{escapesConfig, "", []string{"\xff", "\n", "\xff", "\n", "\xff"}, "\xff", "\n\n", 5},
		// Refused chunks at the beginning, in the middle and at the end, and later ones that are accepted.
		{ordinaryConfig, "", []string{x + "y", "a\n"}, "", "a\n", 1},
		{ordinaryConfig, "", []string{x, "y", "\n", "a\n"}, "", x + "\na\n", 3},
		{ordinaryConfig, "", []string{x, "y", "y\t\n", "", "yy", "\f"}, "", x + "\n", 3},
		{ordinaryConfig, "", []string{"a\n", x, "y"}, x, "a\n", 2},
		{ordinaryConfig, "a\t", []string{x, "b\n", x, "c", "\n\n"}, "", "a b\nc\n\n", 3},
		{ordinaryConfig, "a\t", []string{"\n\n" + x + "y", "b\n\n"}, "", "a b\n\n", 1},
		{ordinaryConfig, x + "x", []string{"a", "", "\n", "b"}, "b", x + "x\n", 2},
		{ordinaryConfig, x + x, []string{"a", "\t"}, x + x, "", 0},
		// What a refused chunk would have begun has no effect on the next one.
		{escapesConfig, "a", []string{"\xff" + x, "\nb\xff", "\n"}, "b\xff\n", "a\n", 2},
	} {
		w := holding(y.c, y.held)
		next, passed, accepted := impl.WriteAll(w, y.chunks)
		if next != holding(y.c, y.left) || passed != y.passed || accepted != y.accepted {
			t.Errorf("WriteAll(%q, %q) = %q, %q, %d, want %q, %q, %d", y.held, y.chunks, next.Held, passed, accepted, y.left, y.passed, y.accepted)
		}
	}
}

// WriteAll writes chunks one after another.
func TestWriteAllIsWriteText(t *testing.T) {
	pieces := []string{"", "a\t", "\n", "\f", "\xff", strings.Repeat("b", 200), strings.Repeat("c\t\n", 134), "d\n" + strings.Repeat("\u4e2d", 133)}
	var lists [][]string
	for from := range pieces {
		for i := range pieces {
			for k := range pieces {
				for last := range pieces {
					lists = append(lists, []string{pieces[from], pieces[i], pieces[k], pieces[last]})
				}
			}
		}
	}
	for _, c := range append(streamConfigs, impl.Config{}) {
		for _, chunks := range lists {
			for n := range 5 {
				w := holding(c, "a\tb\n")
				want, wantPassed, wantAccepted := w, "", 0
				for _, chunk := range chunks[:n] {
					next, layout, code := impl.WriteText(want, chunk)
					want, wantPassed = next, wantPassed+layout
					if code == 0 {
						wantAccepted++
					}
				}
				if next, passed, accepted := impl.WriteAll(w, chunks[:n]); next != want || passed != wantPassed || accepted != wantAccepted {
					t.Fatalf("WriteAll(%q) = %q, %q, %d, want %q, %q, %d", chunks[:n], next.Held, passed, accepted, want.Held, wantPassed, wantAccepted)
				}
			}
		}
	}
}

func TestWritersWithInvalidConfigs(t *testing.T) {
	for _, c := range invalidConfigsWithFlags() {
		if w, code := impl.NewWriter(c); w != (impl.Writer{}) || code != 1 {
			t.Errorf("NewWriter(%+v) = %+v, %d", c, w, code)
		}
		for _, held := range []string{"", "a", "a\nb\t", "\f", strings.Repeat("x", 400), strings.Repeat("x", 401)} {
			w := holding(c, held)
			for _, chunk := range []string{"", "a", "\n", "a\tb\f", strings.Repeat("x", 401)} {
				if next, passed, code := impl.WriteText(w, chunk); next != w || passed != "" || code != 1 {
					t.Errorf("WriteText(%+v, %q) = %+v, %q, %d", w, chunk, next, passed, code)
				}
				if next, passed, n := impl.WriteAll(w, []string{chunk, "", "\n"}); next != w || passed != "" || n != 0 {
					t.Errorf("WriteAll(%+v, %q ..) = %+v, %q, %d", w, chunk, next, passed, n)
				}
			}
			if next, passed, n := impl.WriteAll(w, nil); next != w || passed != "" || n != 0 {
				t.Errorf("WriteAll(%+v, nil) = %+v, %q, %d", w, next, passed, n)
			}
			checkFlush(t, w)
		}
	}
}

func TestWriterName(t *testing.T) {
	for code, want := range map[int]string{
		0: "ok", 1: "config", 2: "held",
		-1: "?", 3: "?", 4: "?", -2: "?", 48: "?", 256: "?", 257: "?", 258: "?", 1 << 32: "?", 1<<32 + 1: "?", 1<<32 + 2: "?", math.MaxInt: "?", math.MinInt: "?",
	} {
		if got := impl.WriterName(code); got != want {
			t.Errorf("WriterName(%d) = %q, want %q", code, got, want)
		}
	}
}

func TestLongChunks(t *testing.T) {
	const n = 30000
	w := holding(ordinaryConfig, "")
	for _, x := range []struct {
		chunk, left, passed string
		code                int
	}{
		{strings.Repeat("a\tb\f", n), "", strings.Repeat("a b\n", n), 0},
		{strings.Repeat("a\n", n) + "b\t", "b\t", strings.Repeat("a\n", n), 0},
		{strings.Repeat("a\t\n", n) + "abc\t\n\n", "", strings.Repeat("a   \n", n) + "abc \n\n", 0},
		{strings.Repeat("a\t\n", n) + "\n" + strings.Repeat("x", 400), strings.Repeat("x", 400), strings.Repeat("a \n", n) + "\n", 0},
		{strings.Repeat("a\t\n", n) + "\n" + strings.Repeat("x", 401), "", "", 2},
		{strings.Repeat("a\t\n", n), "", "", 2},
		{strings.Repeat("\t", n), "", "", 2},
		{strings.Repeat("a", n), "", "", 2},
	} {
		if next, passed, code := impl.WriteText(w, x.chunk); next != holding(ordinaryConfig, x.left) || passed != x.passed || code != x.code {
			t.Errorf("WriteText(%.9q..) leaves %.9q.., passes on %d bytes, want %d, and has the code %d", x.chunk, next.Held, len(passed), len(x.passed), code)
		}
	}
	// What is held may be long, too.
	lines := strings.Repeat("a\tb\n", n)
	next, passed, code := impl.FlushText(holding(ordinaryConfig, lines))
	if next != w || passed != strings.Repeat("a b\n", n) || code != 0 {
		t.Errorf("FlushText of %d bytes passes on %d bytes and has the code %d", len(lines), len(passed), code)
	}
	last, all, accepted := impl.WriteAll(w, chunksOf(strings.Repeat("a\tb\n\n", n), 1))
	if last != w || all != strings.Repeat("a b\n\n", n) || accepted != 5*n {
		t.Errorf("WriteAll of %d chunks of one byte leaves %.9q.. and passes on %d bytes of %d chunks", 5*n, last.Held, len(all), accepted)
	}
}

// A closed text with a cell that is too wide has the empty layout, so that nothing of it is passed on.
func TestClosedTextsWithTooWideCells(t *testing.T) {
	wide := strings.Repeat("a", 100001)
	for _, c := range []impl.Config{ordinaryConfig, rightLined, linedTabs} {
		w := holding(c, "x\t")
		if next, passed, code := impl.WriteText(w, "\n"+wide+"\t\n\ny"); next != holding(c, "y") || passed != "" || code != 0 {
			t.Errorf("a cell with the width 100001 leaves %.9q.., passes on %.9q.. and has the code %d", next.Held, passed, code)
		}
		if next, passed, code := impl.WriteText(w, wide+"\fy"); next != holding(c, "y") || passed != impl.Layout(c, "x\t"+wide+"\f") || passed == "" || code != 0 {
			t.Errorf("a tail with the width 100001 leaves %.9q.., passes on %.9q.. and has the code %d", next.Held, passed, code)
		}
		last, passed, code := impl.FlushText(holding(c, wide+"\t\n"))
		if last != holding(c, "") || passed != "" || code != 0 || impl.Pending(holding(c, wide+"\t\n")) != "" {
			t.Errorf("a held cell with the width 100001 leaves %.9q.., passes on %.9q.. and has the code %d", last.Held, passed, code)
		}
	}
}

// isPartOf reports whether a text is in the memory of another one.
func isPartOf(s string, whole string) bool {
	if s == "" || whole == "" {
		return false
	}
	at, from := uintptr(unsafe.Pointer(unsafe.StringData(s))), uintptr(unsafe.Pointer(unsafe.StringData(whole)))
	return from <= at && at < from+uintptr(len(whole))
}

// Chapter 1: results share no memory with the chunks, which a writer would otherwise keep, and arguments do not change.
func TestWriterResultsAreNew(t *testing.T) {
	for _, held := range []string{"", "a\t"} {
		chunk := strings.Repeat("b\n", 1000) + "c\td"
		w := holding(ordinaryConfig, strings.Clone(held))
		next, passed, _ := impl.WriteText(w, chunk)
		if w.Held != held || next.Held != "c\td" {
			t.Errorf("WriteText(%q) leaves %q and changes the argument to %q", held, next.Held, w.Held)
		}
		if isPartOf(next.Held, chunk) || isPartOf(passed, chunk) || isPartOf(passed, w.Held) {
			t.Errorf("with %q held, what WriteText returns is a part of the chunk", held)
		}
		all, together, _ := impl.WriteAll(w, []string{"b\n", chunk})
		if isPartOf(all.Held, chunk) || isPartOf(together, chunk) {
			t.Errorf("with %q held, what WriteAll returns is a part of the chunk", held)
		}
	}
	plain := strings.Repeat("a", 300)
	w, _, _ := impl.WriteText(holding(ordinaryConfig, ""), plain)
	_, passed, _ := impl.FlushText(w)
	if isPartOf(w.Held, plain) || isPartOf(passed, w.Held) || isPartOf(impl.Pending(w), w.Held) {
		t.Error("what is held or flushed is a part of the text that it comes from")
	}
	backing := []string{"a", "\n", "b", "spare", "spare"}
	for range 2 {
		if next, passed, n := impl.WriteAll(holding(ordinaryConfig, "x\n"), backing[:3]); next.Held != "b" || passed != "x\na\n" || n != 3 {
			t.Errorf("WriteAll of the first three of %q = %q, %q, %d", backing, next.Held, passed, n)
		}
	}
	if want := []string{"a", "\n", "b", "spare", "spare"}; !slices.Equal(backing, want) {
		t.Errorf("the chunks are %q afterwards", backing)
	}
}
