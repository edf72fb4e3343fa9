package tests

import (
	"math"
	"slices"
	"strings"
	"testing"

	"loop.example/g00819/impl"
)

// alive returns a sink that has not failed.
func alive(room int, taken string) impl.Sink {
	return impl.Sink{Room: room, Taken: taken}
}

// dead returns a sink that has failed. One that has room left is not what a failure leaves.
func dead(room int, taken string) impl.Sink {
	return impl.Sink{Room: room, Taken: taken, Dead: true}
}

// sinkAfter is what TakeText returns by the document, for which the bytes are counted one by one.
func sinkAfter(k impl.Sink, s string) (impl.Sink, bool) {
	if k.Dead {
		return k, false
	}
	taken := 0
	for taken < len(s) && taken < k.Room {
		taken++
	}
	if taken < len(s) || k.Room < 0 {
		return dead(0, k.Taken+s[:taken]), false
	}
	return alive(k.Room-taken, k.Taken+s), true
}

// sinkGiven is a sink after it has been given what is passed on, which may be nothing.
func sinkGiven(k impl.Sink, passed string) impl.Sink {
	if passed != "" {
		k, _ = sinkAfter(k, passed)
	}
	return k
}

// performed is what RunOp returns by the definitions of the tests.
func performed(s impl.Session, o impl.Op) (impl.Session, int) {
	passed, code := "", 1
	switch o.Kind {
	case 1:
		s.Writer = impl.Writer{}
		if isConfig(o.Config) {
			s.Writer, code = holding(o.Config, ""), 0
		}
	case 2:
		s.Writer, passed, code = written(s.Writer, o.Text)
	case 3:
		s.Writer, passed, code = flushed(s.Writer)
	}
	if code != 0 {
		return s, code
	}
	s.Sink = sinkGiven(s.Sink, passed)
	if s.Sink.Dead {
		return s, 3
	}
	return s, 0
}

func session(w impl.Writer, k impl.Sink) impl.Session {
	return impl.Session{Writer: w, Sink: k}
}

func initOp(c impl.Config) impl.Op {
	return impl.Op{Kind: 1, Config: c}
}

func writeOp(text string) impl.Op {
	return impl.Op{Kind: 2, Text: text}
}

func flushOp() impl.Op {
	return impl.Op{Kind: 3}
}

// otherKinds are kinds of no operation, some of which become one when they are cut to fewer bits.
var otherKinds = []int{0, 4, -1, -2, -3, 5, 256, 257, 258, 259, 1 << 32, 1<<32 + 1, 1<<32 + 2, 1<<32 + 3, math.MinInt, math.MinInt + 1, math.MaxInt}

// someSinks are dead or not, with room for nothing, for some bytes, or for less than nothing.
func someSinks() []impl.Sink {
	var list []impl.Sink
	for _, room := range []int{math.MinInt, -1, 0, 1, 2, 3, 4, 400, 402, math.MaxInt} {
		for _, taken := range []string{"", "\xe4\xb8"} {
			list = append(list, alive(room, taken), dead(room, taken))
		}
	}
	return list
}

func someSessions() []impl.Session {
	x := strings.Repeat("x", 400)
	writers := []impl.Writer{{}, holding(impl.Config{}, "a\n"), holding(withFlags(tabConfig, rightBit), "a\tb\n")}
	for _, held := range []string{"", "a", "a\n", "a\tb\n", "\xe4\xb8", x, x + "x"} {
		writers = append(writers, holding(ordinaryConfig, held), holding(escapesConfig, "\xff"+held))
	}
	var list []impl.Session
	for _, w := range writers {
		for _, k := range someSinks() {
			list = append(list, session(w, k))
		}
	}
	return list
}

// someOps have values in all fields, also in those without a meaning for their kind.
func someOps() []impl.Op {
	var list []impl.Op
	for _, kind := range []int{1, 2, 3, 0, 4, -1} {
		for _, c := range []impl.Config{{}, ordinaryConfig, shortTabs, withFlags(tabConfig, rightBit)} {
			for _, text := range []string{"", "b", "\n", "b\tc\f", "\xad\n", "\xff\n", strings.Repeat("y", 400), strings.Repeat("y", 401) + "\n"} {
				list = append(list, impl.Op{Kind: kind, Config: c, Text: text})
			}
		}
	}
	return list
}

// checkRunOps compares RunOps with the definitions.
func checkRunOps(t *testing.T, s impl.Session, list []impl.Op) {
	t.Helper()
	want := s
	wantCodes := make([]int, len(list))
	for i, o := range list {
		want, wantCodes[i] = performed(want, o)
	}
	if next, codes := impl.RunOps(s, list); next != want || !slices.Equal(codes, wantCodes) {
		t.Fatalf("RunOps(%+v, %+v) = %+v, %d, want %+v, %d", s, list, next, codes, want, wantCodes)
	}
}

func TestSinkConstants(t *testing.T) {
	if impl.OpInit != 1 || impl.OpWrite != 2 || impl.OpFlush != 3 || impl.WrSink != 3 {
		t.Errorf("the kinds are %d, %d and %d, and WrSink is %d", impl.OpInit, impl.OpWrite, impl.OpFlush, impl.WrSink)
	}
}

func TestTakeText(t *testing.T) {
	for _, x := range []struct {
		sink impl.Sink
		s    string
		next impl.Sink
		ok   bool
	}{
		// One byte fewer than Room, exactly as many, and one more.
		{alive(3, ""), "ab", alive(1, "ab"), true},
		{alive(3, ""), "abc", alive(0, "abc"), true},
		{alive(3, ""), "abcd", dead(0, "abc"), false},
		{alive(1, ""), "", alive(1, ""), true},
		{alive(1, ""), "a", alive(0, "a"), true},
		{alive(1, ""), "ab", dead(0, "a"), false},
		{alive(2, ""), "abcdefgh", dead(0, "ab"), false},
		{alive(math.MaxInt, ""), "ab", alive(math.MaxInt-2, "ab"), true},
		// A sink that has taken bytes before.
		{alive(3, "x\n"), "ab", alive(1, "x\nab"), true},
		{alive(3, "x\n"), "abc", alive(0, "x\nabc"), true},
		{alive(3, "x\n"), "abcd", dead(0, "x\nabc"), false},
		{alive(3, "x\n"), "", alive(3, "x\n"), true},
		{alive(1, "\xe4\xb8"), "\xad", alive(0, "\u4e2d"), true},
		{alive(2, strings.Repeat("x", 1000)), "ab", alive(0, strings.Repeat("x", 1000)+"ab"), true},
		// No room.
		{alive(0, ""), "", alive(0, ""), true},
		{alive(0, "x"), "", alive(0, "x"), true},
		{alive(0, ""), "a", dead(0, ""), false},
		{alive(0, "x"), "a", dead(0, "x"), false},
		{alive(0, "x"), "ab\n", dead(0, "x"), false},
		{impl.Sink{}, "", impl.Sink{}, true},
		// Also an empty string is more than a negative Room.
		{alive(-1, ""), "", dead(0, ""), false},
		{alive(-1, "x"), "", dead(0, "x"), false},
		{alive(-1, ""), "a", dead(0, ""), false},
		{alive(-1, "x"), "ab", dead(0, "x"), false},
		{alive(-5, "x"), "abcdefgh", dead(0, "x"), false},
		{alive(math.MinInt, "x"), "", dead(0, "x"), false},
		{alive(math.MinInt, "x"), "a", dead(0, "x"), false},
		// A dead sink is unchanged, whatever room it has.
		{dead(0, "x"), "", dead(0, "x"), false},
		{dead(0, "x"), "a", dead(0, "x"), false},
		{dead(5, "x"), "", dead(5, "x"), false},
		{dead(5, "x"), "a", dead(5, "x"), false},
		{dead(5, "x"), "abcdef", dead(5, "x"), false},
		{dead(-5, ""), "", dead(-5, ""), false},
		{dead(-5, ""), "a", dead(-5, ""), false},
		{dead(math.MaxInt, ""), "a", dead(math.MaxInt, ""), false},
		// Bytes count, not characters, and a cut may divide one.
		{alive(3, ""), "\u4e2d", alive(0, "\u4e2d"), true},
		{alive(2, ""), "\u4e2d", dead(0, "\xe4\xb8"), false},
		{alive(1, "x"), "\u4e2d", dead(0, "x\xe4"), false},
		{alive(2, ""), "a\u0301", dead(0, "a\xcc"), false},
		{alive(3, ""), "\U0001f600", dead(0, "\xf0\x9f\x98"), false},
		{alive(1, ""), "\xff\xfe", dead(0, "\xff"), false},
		{alive(2, ""), "\x00\x00\n", dead(0, "\x00\x00"), false},
	} {
		if next, ok := impl.TakeText(x.sink, x.s); next != x.next || ok != x.ok {
			t.Errorf("TakeText(%+v, %q) = %+v, %t, want %+v, %t", x.sink, x.s, next, ok, x.next, x.ok)
		}
	}
}

func TestTakeTextByDefinition(t *testing.T) {
	texts := append(textsOver("a\n\xff", 4), textsOfPieces([]string{"\u4e2d", "\u0301", "\U0001f600", "\xe4"}, 2)...)
	for _, n := range []int{399, 400, 401, 402, 403} {
		texts = append(texts, strings.Repeat("\n", n))
	}
	for _, k := range someSinks() {
		for _, s := range texts {
			want, wantOk := sinkAfter(k, s)
			next, ok := impl.TakeText(k, s)
			if next != want || ok != wantOk {
				t.Fatalf("TakeText(%+v, %q) = %+v, %t, want %+v, %t", k, s, next, ok, want, wantOk)
			}
			// It fails for good: nothing is taken afterwards, not even nothing.
			for _, more := range []string{"", "a", s} {
				if again, ok := impl.TakeText(next, more); next.Dead && (again != next || ok) {
					t.Fatalf("TakeText(%+v, %q) = %+v, %t", next, more, again, ok)
				}
			}
		}
	}
}

// P4 for a sink alone: however a text is cut, a beginning of it is taken, which is all of it unless the sink fails.
func TestTextsTakenInParts(t *testing.T) {
	for _, s := range []string{"a", "abc\n", "a\u4e2d\n", "\U0001f600e\u0301", "\xff\x00\t\f|"} {
		for room := range len(s) + 2 {
			eachCutting(s, func(parts []string) {
				k := alive(room, "before")
				given := 0
				for _, part := range parts {
					next, ok := impl.TakeText(k, part)
					k, given = next, given+len(part)
					if ok != (given <= room) {
						t.Fatalf("with room for %d bytes of %q, the result is %t after %d of them", room, parts, ok, given)
					}
				}
				want := alive(room-len(s), "before"+s)
				if room < len(s) {
					want = dead(0, "before"+s[:room])
				}
				if k != want {
					t.Fatalf("with room for %d bytes of %q, the sink becomes %+v", room, parts, k)
				}
			})
		}
	}
}

func TestRunOp(t *testing.T) {
	x := strings.Repeat("x", 400)
	held := holding(ordinaryConfig, "a\tb\n")
	nothing := holding(ordinaryConfig, "")
	for _, y := range []struct {
		w        impl.Writer
		k        impl.Sink
		o        impl.Op
		nextW    impl.Writer
		nextSink impl.Sink
		code     int
	}{
		// OpInit with a configuration that is valid, whatever the writer holds, which the sink is not given.
		{impl.Writer{}, alive(5, ""), initOp(ordinaryConfig), nothing, alive(5, ""), 0},
		{held, alive(5, "x"), initOp(ordinaryConfig), nothing, alive(5, "x"), 0},
		{held, alive(0, ""), initOp(rightLined), holding(rightLined, ""), alive(0, ""), 0},
		{held, alive(-1, ""), initOp(shortTabs), holding(shortTabs, ""), alive(-1, ""), 0},
		{holding(ordinaryConfig, x+"x"), alive(5, ""), initOp(escapesConfig), holding(escapesConfig, ""), alive(5, ""), 0},
		{holding(impl.Config{}, "a\n"), alive(5, ""), initOp(ordinaryConfig), nothing, alive(5, ""), 0},
		{held, dead(0, "x"), initOp(shortTabs), holding(shortTabs, ""), dead(0, "x"), 3},
		{held, dead(5, ""), initOp(ordinaryConfig), nothing, dead(5, ""), 3},
		// OpInit with one that is not.
		{impl.Writer{}, alive(5, ""), initOp(impl.Config{}), impl.Writer{}, alive(5, ""), 1},
		{held, alive(5, "x"), initOp(impl.Config{}), impl.Writer{}, alive(5, "x"), 1},
		{held, alive(5, "x"), initOp(impl.Config{Tab: 8, Pad: 9, Right: true}), impl.Writer{}, alive(5, "x"), 1},
		{held, alive(-1, "x"), initOp(impl.Config{}), impl.Writer{}, alive(-1, "x"), 1},
		{held, dead(0, "x"), initOp(impl.Config{}), impl.Writer{}, dead(0, "x"), 1},
		{held, dead(5, "x"), initOp(impl.Config{Tab: 33, Pad: 32}), impl.Writer{}, dead(5, "x"), 1},
		// OpWrite that passes on one byte fewer than Room, exactly as many, and one more.
		{nothing, alive(3, "x"), writeOp("a\nb"), holding(ordinaryConfig, "b"), alive(1, "xa\n"), 0},
		{nothing, alive(2, "x"), writeOp("a\nb"), holding(ordinaryConfig, "b"), alive(0, "xa\n"), 0},
		{nothing, alive(1, "x"), writeOp("a\nb"), holding(ordinaryConfig, "b"), dead(0, "xa"), 3},
		{held, alive(10, ""), writeOp("long\tc\n\nd"), holding(ordinaryConfig, "d"), dead(0, "a    b\nlon"), 3},
		{holding(ordinaryConfig, "\xe4"), alive(2, ""), writeOp("\xb8\xad\n"), nothing, dead(0, "\xe4\xb8"), 3},
		{nothing, alive(0, "x"), writeOp("\n"), nothing, dead(0, "x"), 3},
		{nothing, alive(-1, "x"), writeOp("\n"), nothing, dead(0, "x"), 3},
		{nothing, dead(0, "x"), writeOp("a\nb"), holding(ordinaryConfig, "b"), dead(0, "x"), 3},
		{nothing, dead(5, "x"), writeOp("a\nb"), holding(ordinaryConfig, "b"), dead(5, "x"), 3},
		// OpWrite that passes on nothing.
		{nothing, alive(5, "x"), writeOp("b\t"), holding(ordinaryConfig, "b\t"), alive(5, "x"), 0},
		{nothing, alive(0, "x"), writeOp("b"), holding(ordinaryConfig, "b"), alive(0, "x"), 0},
		{nothing, alive(-1, "x"), writeOp("b"), holding(ordinaryConfig, "b"), alive(-1, "x"), 0},
		{nothing, alive(math.MinInt, "x"), writeOp(""), nothing, alive(math.MinInt, "x"), 0},
		{held, dead(0, "x"), writeOp("c"), holding(ordinaryConfig, "a\tb\nc"), dead(0, "x"), 3},
		{held, dead(5, "x"), writeOp(""), held, dead(5, "x"), 3},
		// OpWrite that is refused.
		{impl.Writer{}, alive(5, "x"), writeOp("a\n"), impl.Writer{}, alive(5, "x"), 1},
		{impl.Writer{}, dead(5, "x"), writeOp("a\n"), impl.Writer{}, dead(5, "x"), 1},
		{holding(impl.Config{}, "a\n"), alive(-1, "x"), writeOp(""), holding(impl.Config{}, "a\n"), alive(-1, "x"), 1},
		{held, alive(5, "x"), writeOp(x), held, alive(5, "x"), 2},
		{held, alive(0, "x"), writeOp("\n" + x + "x"), held, alive(0, "x"), 2},
		{held, alive(-1, "x"), writeOp(x), held, alive(-1, "x"), 2},
		{held, dead(0, "x"), writeOp(x), held, dead(0, "x"), 2},
		{held, dead(5, "x"), writeOp("\n" + x + "x"), held, dead(5, "x"), 2},
		// OpFlush.
		{held, alive(5, "x"), flushOp(), nothing, alive(1, "xa b\n"), 0},
		{held, alive(4, "x"), flushOp(), nothing, alive(0, "xa b\n"), 0},
		{held, alive(3, "x"), flushOp(), nothing, dead(0, "xa b"), 3},
		{held, alive(0, "x"), flushOp(), nothing, dead(0, "x"), 3},
		{held, alive(-1, "x"), flushOp(), nothing, dead(0, "x"), 3},
		{held, dead(0, "x"), flushOp(), nothing, dead(0, "x"), 3},
		{held, dead(5, "x"), flushOp(), nothing, dead(5, "x"), 3},
		{nothing, alive(0, "x"), flushOp(), nothing, alive(0, "x"), 0},
		{nothing, alive(-1, "x"), flushOp(), nothing, alive(-1, "x"), 0},
		{nothing, dead(5, "x"), flushOp(), nothing, dead(5, "x"), 3},
		// Also text that is held may have the empty layout.
		{holding(escapesConfig, "\xff"), alive(-1, "x"), flushOp(), holding(escapesConfig, ""), alive(-1, "x"), 0},
		{holding(escapesConfig, "\xff\xff"), dead(5, "x"), flushOp(), holding(escapesConfig, ""), dead(5, "x"), 3},
		{impl.Writer{}, alive(5, "x"), flushOp(), impl.Writer{}, alive(5, "x"), 1},
		{impl.Writer{}, dead(5, "x"), flushOp(), impl.Writer{}, dead(5, "x"), 1},
		{holding(impl.Config{}, "a\n"), alive(-1, "x"), flushOp(), holding(impl.Config{}, "a\n"), alive(-1, "x"), 1},
	} {
		s, want := session(y.w, y.k), session(y.nextW, y.nextSink)
		if next, code := impl.RunOp(s, y.o); next != want || code != y.code {
			t.Errorf("RunOp(%+v, %+v) = %+v, %d, want %+v, %d", s, y.o, next, code, want, y.code)
		}
	}
}

func TestRunOpByDefinition(t *testing.T) {
	ops := someOps()
	for _, s := range someSessions() {
		for _, o := range ops {
			want, wantCode := performed(s, o)
			if next, code := impl.RunOp(s, o); next != want || code != wantCode {
				t.Fatalf("RunOp(%+v, %+v) = %+v, %d, want %+v, %d", s, o, next, code, want, wantCode)
			}
		}
	}
}

func TestSessionsWithAllConfigs(t *testing.T) {
	for _, c := range append(configsAround(), allLayoutConfigs...) {
		want, wantCode := impl.Writer{}, 1
		if isConfig(c) {
			want, wantCode = holding(c, ""), 0
		}
		s := session(holding(ordinaryConfig, "a\t"), alive(5, "x"))
		if next, code := impl.RunOp(s, initOp(c)); next != session(want, s.Sink) || code != wantCode {
			t.Fatalf("OpInit with %+v makes the session %+v, with the code %d", c, next, code)
		}
	}
	for _, c := range invalidConfigsWithFlags() {
		for _, k := range []impl.Sink{alive(5, "x"), alive(-1, "x"), dead(5, "x"), dead(0, "")} {
			s := session(holding(c, "a\n"), k)
			for _, o := range []impl.Op{writeOp(""), writeOp("\n"), writeOp(strings.Repeat("a", 401)), flushOp()} {
				if next, code := impl.RunOp(s, o); next != s || code != 1 {
					t.Fatalf("RunOp(%+v, %+v) = %+v, %d", s, o, next, code)
				}
			}
			if next, code := impl.RunOp(s, initOp(c)); next != session(impl.Writer{}, k) || code != 1 {
				t.Fatalf("OpInit with %+v makes the session %+v, with the code %d", c, next, code)
			}
		}
	}
}

func TestOtherKinds(t *testing.T) {
	for _, kind := range otherKinds {
		for _, s := range someSessions() {
			for _, o := range []impl.Op{{Kind: kind}, {Kind: kind, Config: shortTabs, Text: "a\n"}} {
				if next, code := impl.RunOp(s, o); next != s || code != 1 {
					t.Fatalf("RunOp(%+v, %+v) = %+v, %d", s, o, next, code)
				}
			}
		}
	}
}

// The zero value has a writer that is not usable, and a sink with no room that is not dead.
func TestZeroSession(t *testing.T) {
	var zero impl.Session
	for _, o := range []impl.Op{{}, writeOp(""), writeOp("a\n"), flushOp(), initOp(impl.Config{}), {Kind: 4}} {
		if next, code := impl.RunOp(zero, o); next != zero || code != 1 {
			t.Errorf("RunOp of the zero value with %+v = %+v, %d", o, next, code)
		}
	}
	begun := session(holding(ordinaryConfig, ""), impl.Sink{})
	if next, code := impl.RunOp(zero, initOp(ordinaryConfig)); next != begun || code != 0 {
		t.Errorf("OpInit makes the zero value %+v, with the code %d", next, code)
	}
	if next, codes := impl.RunOps(zero, nil); next != zero || len(codes) != 0 {
		t.Errorf("without operations, the zero value becomes %+v, with the codes %d", next, codes)
	}
	ops := []impl.Op{flushOp(), initOp(ordinaryConfig), writeOp("a"), writeOp("\n"), flushOp()}
	want := session(holding(ordinaryConfig, ""), dead(0, ""))
	if next, codes := impl.RunOps(zero, ops); next != want || !slices.Equal(codes, []int{1, 0, 0, 3, 3}) {
		t.Errorf("the zero value becomes %+v, with the codes %d", next, codes)
	}
}

func TestRunOps(t *testing.T) {
	x := strings.Repeat("x", 400)
	begin := initOp(ordinaryConfig)
	for _, y := range []struct {
		k     impl.Sink
		list  []impl.Op
		held  string
		next  impl.Sink
		codes []int
	}{
		{alive(9, ""), []impl.Op{begin}, "", alive(9, ""), []int{0}},
		{alive(9, ""), []impl.Op{begin, writeOp("a\tb\n"), writeOp("c\td"), flushOp()}, "", alive(2, "a b\nc d"), []int{0, 0, 0, 0}},
		{alive(7, ""), []impl.Op{begin, writeOp("a\tb\n"), writeOp("c\td"), flushOp()}, "", alive(0, "a b\nc d"), []int{0, 0, 0, 0}},
		{alive(6, ""), []impl.Op{begin, writeOp("a\tb\n"), writeOp("c\td"), flushOp()}, "", dead(0, "a b\nc "), []int{0, 0, 0, 3}},
		// The writer goes on after the sink has failed, and what it passes on is lost.
		{alive(3, ""), []impl.Op{begin, writeOp("a\n"), writeOp("b\n"), flushOp()}, "", dead(0, "a\nb"), []int{0, 0, 3, 3}},
		{alive(3, ""), []impl.Op{begin, writeOp("abc\n"), writeOp("b\nc"), writeOp("\td"), writeOp("")}, "c\td", dead(0, "abc"), []int{0, 3, 3, 3, 3}},
		{alive(1, ""), []impl.Op{begin, writeOp("a\n"), begin, writeOp("b"), initOp(impl.Config{}), begin, writeOp("c")}, "c", dead(0, "a"), []int{0, 3, 3, 3, 1, 3, 3}},
		{dead(9, "x"), []impl.Op{begin, writeOp("a\n"), flushOp()}, "", dead(9, "x"), []int{3, 3, 3}},
		// Some operations are refused, before and after the sink has failed.
		{alive(9, ""), []impl.Op{begin, writeOp("a\t"), writeOp(x), writeOp("b\f")}, "", alive(5, "a b\n"), []int{0, 0, 2, 0}},
		{alive(3, ""), []impl.Op{begin, writeOp("a\t"), writeOp(x), writeOp("b\f"), writeOp(x + "y"), writeOp("c"), {Kind: 4}}, "c", dead(0, "a b"), []int{0, 0, 2, 3, 2, 3, 1}},
		{alive(9, ""), []impl.Op{writeOp("a\n"), flushOp(), begin, writeOp("b"), {}, {Kind: 4, Config: shortTabs, Text: "c"}, flushOp()}, "", alive(8, "b"), []int{1, 1, 0, 0, 1, 1, 0}},
		{dead(0, ""), []impl.Op{writeOp("a\n"), flushOp(), begin, {}}, "", dead(0, ""), []int{1, 1, 3, 1}},
		// A writer that begins anew loses what it holds, but not what has been taken; one that is not usable can begin anew.
		{alive(9, ""), []impl.Op{begin, writeOp("a\nb"), begin, writeOp("c"), flushOp()}, "", alive(6, "a\nc"), []int{0, 0, 0, 0, 0}},
		{alive(9, ""), []impl.Op{begin, writeOp("a\nb"), initOp(impl.Config{}), writeOp("\n"), flushOp(), begin, writeOp("c")}, "c", alive(7, "a\n"), []int{0, 0, 1, 1, 1, 0, 0}},
		// A flushed writer can be used further; what has been flushed no longer aligns what follows.
		{alive(20, ""), []impl.Op{begin, writeOp("a\tb\n"), flushOp(), flushOp(), writeOp("long\tc\n"), flushOp()}, "", alive(9, "a b\nlong c\n"), []int{0, 0, 0, 0, 0, 0}},
		// A negative Room is noticed only when something is passed on.
		{alive(-1, "x"), []impl.Op{begin, flushOp(), writeOp(""), writeOp("a"), writeOp("\n"), writeOp("b")}, "b", dead(0, "x"), []int{0, 0, 0, 0, 3, 3}},
	} {
		want := session(holding(ordinaryConfig, y.held), y.next)
		if next, codes := impl.RunOps(session(impl.Writer{}, y.k), y.list); next != want || !slices.Equal(codes, y.codes) {
			t.Errorf("RunOps with the sink %+v and %+v = %+v, %d, want %+v, %d", y.k, y.list, next, codes, want, y.codes)
		}
	}
}

func TestRunOpsWithoutOps(t *testing.T) {
	for _, s := range someSessions() {
		for _, list := range [][]impl.Op{nil, {}} {
			if next, codes := impl.RunOps(s, list); next != s || len(codes) != 0 {
				t.Fatalf("without operations, %+v becomes %+v, with the codes %d", s, next, codes)
			}
		}
	}
}

// listsOfOps returns all lists of at most n operations that pass on nothing or something, begin anew, or are refused.
func listsOfOps(n int) [][]impl.Op {
	choices := []impl.Op{initOp(ordinaryConfig), initOp(impl.Config{}), writeOp(""), writeOp("a\t"), writeOp("b\n"), writeOp("\u4e2d\f"), writeOp(strings.Repeat("c", 400)), flushOp(), {Kind: 4}}
	var all [][]impl.Op
	eachList(choices, n, func(list []impl.Op) { all = append(all, list) })
	return all
}

// P4: the operations of a session can be divided into two sessions at any place.
func TestSessionsDivided(t *testing.T) {
	for _, list := range listsOfOps(4) {
		for _, s := range []impl.Session{
			{},
			session(holding(ordinaryConfig, ""), alive(math.MaxInt, "")),
			session(holding(ordinaryConfig, "x\ty"), alive(7, "x")),
			session(holding(rightLined, "x\n"), alive(2, "")),
			session(holding(ordinaryConfig, ""), alive(-1, "")),
			session(holding(shortTabs, "x"), dead(9, "x")),
		} {
			checkRunOps(t, s, list)
			whole, codes := impl.RunOps(s, list)
			for i := range len(list) + 1 {
				first, before := impl.RunOps(s, list[:i])
				second, after := impl.RunOps(first, list[i:])
				if second != whole || !impl.SameSession(second, whole) || !slices.Equal(append(before, after...), codes) {
					t.Fatalf("%+v divided after %d operations makes %+v become %+v, and not %+v", list, i, s, second, whole)
				}
			}
		}
	}
}

// checkSession is P4: after each operation, the sink has taken a beginning of the layout of the closed lines that have arrived, and all of it unless it has failed; in the end, the same holds for the layout of the text.
func checkSession(t *testing.T, c impl.Config, k impl.Sink, chunks []string) {
	t.Helper()
	// The zero value could be used as well, but OpInit has to drop what is held.
	s, codes := impl.RunOps(session(holding(ordinaryConfig, "dropped\n"), k), impl.OpsOf(c, chunks))
	if len(codes) != len(chunks)+2 {
		t.Fatalf("there are %d codes for %q", len(codes), chunks)
	}
	arrived := ""
	for i, code := range codes {
		passed := ""
		switch {
		case i > 0 && i <= len(chunks):
			arrived += chunks[i-1]
			passed = layoutOf(c, arrived[:closedLength(c, arrived)])
		case i > len(chunks):
			passed = layoutOf(c, arrived)
		}
		if sinkGiven(k, passed).Dead != (code == 3) || code != 0 && code != 3 {
			t.Fatalf("with %s, %+v and the chunks %q, the codes are %d", configText(c), k, chunks, codes)
		}
	}
	if want := sinkGiven(k, layoutOf(c, arrived)); s != session(holding(c, ""), want) {
		t.Fatalf("with %s, %+v and the chunks %q, the session becomes %+v", configText(c), k, chunks, s)
	}
}

func TestSinksOfSessions(t *testing.T) {
	for _, text := range append(textsOver("a\t\n\f\xff", 3), "a\t\nb\n\t", "\xffa\n\xff\n\xff\f", "<b>\t\n&;\n", "\u4e2d\t\f\u0301\n") {
		for _, c := range streamConfigs {
			for room := -1; room <= len(layoutOf(c, text))+1; room++ {
				eachCutting(text, func(chunks []string) {
					checkSession(t, c, alive(room, "x"), chunks)
				})
			}
		}
	}
	for _, text := range textsOfPieces(cellPieces, 2) {
		for _, c := range streamConfigs {
			for _, k := range someSinks() {
				checkSession(t, c, k, []string{text})
				checkSession(t, c, k, append(chunksOf(text, 1), ""))
			}
		}
	}
}

// The bytes taken are told from the layout alone, without the definitions of the tests, for sinks that fail after any number of bytes.
func TestSinksTakeBeginnings(t *testing.T) {
	const text = "a\tb\nlong\t\u4e2d\n\nx\f\u4e2d\te\u0301\nb\t\xff\n<b>\t\xffc\nend\nd\t"
	for _, c := range append(slices.Clone(streamConfigs), layoutConfigs...) {
		layout := impl.Layout(c, text)
		for n := 1; n <= len(text); n++ {
			ops := impl.OpsOf(c, chunksOf(text, n))
			for room := range len(layout) + 2 {
				s, _ := impl.RunOps(session(impl.Writer{}, alive(room, "")), ops)
				want := alive(room-len(layout), layout)
				if room < len(layout) {
					want = dead(0, layout[:room])
				}
				if s.Sink != want {
					t.Fatalf("with %s, chunks of %d bytes and room for %d, the sink becomes %+v, want %+v", configText(c), n, room, s.Sink, want)
				}
			}
		}
	}
}

// P4 with operations that are refused: the layout is that of the accepted text, whether the sink has failed or not.
func TestSinksOfAcceptedText(t *testing.T) {
	pieces := []string{"", "a\t", "\u4e2d\n", "\n", "\xff", strings.Repeat("b", 399), strings.Repeat("c\t\n", 134)}
	var lists [][]string
	for _, first := range pieces {
		for _, second := range pieces {
			for _, third := range pieces {
				for _, last := range pieces {
					lists = append(lists, []string{first, second, third, last})
				}
			}
		}
	}
	for _, c := range streamConfigs {
		for _, chunks := range lists {
			for _, room := range []int{-1, 0, 8, 402, 1 << 20} {
				s, codes := impl.RunOps(session(impl.Writer{}, alive(room, "")), impl.OpsOf(c, chunks))
				accepted := ""
				for i, chunk := range chunks {
					if code := codes[i+1]; code == 0 || code == 3 {
						accepted += chunk
					}
				}
				layout := impl.Layout(c, accepted)
				if !strings.HasPrefix(layout, s.Sink.Taken) || s.Sink.Dead != (layout != "" && room < len(layout)) {
					t.Fatalf("with %s and room for %d bytes, %.20q becomes %.20q, and dead is %t", configText(c), room, chunks, s.Sink.Taken, s.Sink.Dead)
				}
				if wantLength := min(max(room, 0), len(layout)); len(s.Sink.Taken) != wantLength {
					t.Fatalf("with %s and room for %d bytes, %d bytes of %.20q are taken, want %d", configText(c), room, len(s.Sink.Taken), chunks, wantLength)
				}
			}
		}
	}
}

func TestOpsOf(t *testing.T) {
	for _, c := range append(invalidConfigsWithFlags(), allLayoutConfigs...) {
		for _, x := range []struct {
			chunks []string
			writes []impl.Op
		}{
			{nil, nil},
			{[]string{}, nil},
			{[]string{""}, []impl.Op{{Kind: 2}}},
			{[]string{"a\n"}, []impl.Op{{Kind: 2, Text: "a\n"}}},
			{[]string{"", "b", ""}, []impl.Op{{Kind: 2}, {Kind: 2, Text: "b"}, {Kind: 2}}},
			{[]string{"b\t", "a", "b\t"}, []impl.Op{{Kind: 2, Text: "b\t"}, {Kind: 2, Text: "a"}, {Kind: 2, Text: "b\t"}}},
			{[]string{"\xe4", "\xff\x00"}, []impl.Op{{Kind: 2, Text: "\xe4"}, {Kind: 2, Text: "\xff\x00"}}},
		} {
			want := slices.Concat([]impl.Op{{Kind: 1, Config: c}}, x.writes, []impl.Op{{Kind: 3}})
			if got := impl.OpsOf(c, x.chunks); !slices.Equal(got, want) {
				t.Fatalf("OpsOf(%+v, %q) = %+v", c, x.chunks, got)
			}
		}
	}
	long := chunksOf(strings.Repeat("ab", 3000), 1)
	ops := impl.OpsOf(ordinaryConfig, long)
	if len(ops) != 6002 || ops[6001] != flushOp() {
		t.Fatalf("there are %d operations", len(ops))
	}
	for i, chunk := range long {
		if ops[i+1] != writeOp(chunk) {
			t.Fatalf("the operation %d is %+v", i+1, ops[i+1])
		}
	}
}

func TestSameSession(t *testing.T) {
	base := session(holding(impl.Config{Min: 1, Tab: 8, Padding: 1, Pad: 32}, "a\t"), alive(5, "x"))
	list := []impl.Session{{}, base}
	for _, change := range []func(s *impl.Session){
		func(s *impl.Session) { s.Writer.Config.Min = 2 },
		func(s *impl.Session) { s.Writer.Config.Min = 1 + 1<<32 },
		func(s *impl.Session) { s.Writer.Config.Tab = 4 },
		func(s *impl.Session) { s.Writer.Config.Padding = 0 },
		func(s *impl.Session) { s.Writer.Config.Pad = 9 },
		func(s *impl.Session) { s.Writer.Config.Right = true },
		func(s *impl.Session) { s.Writer.Config.Drop = true },
		func(s *impl.Session) { s.Writer.Config.Lines = true },
		func(s *impl.Session) { s.Writer.Config.Escapes = true },
		func(s *impl.Session) { s.Writer.Config.Markup = true },
		func(s *impl.Session) { s.Writer.Config = impl.Config{} },
		func(s *impl.Session) { s.Writer.Held = "" },
		func(s *impl.Session) { s.Writer.Held = "a\n" },
		func(s *impl.Session) { s.Writer.Held = "a\t\x00" },
		func(s *impl.Session) { s.Sink.Room = 4 },
		func(s *impl.Session) { s.Sink.Room = -5 },
		func(s *impl.Session) { s.Sink.Room = math.MinInt },
		func(s *impl.Session) { s.Sink.Room = math.MaxInt },
		func(s *impl.Session) { s.Sink.Taken = "" },
		func(s *impl.Session) { s.Sink.Taken = "y" },
		func(s *impl.Session) { s.Sink.Taken = "xx" },
		func(s *impl.Session) { s.Sink.Dead = true },
		func(s *impl.Session) { s.Writer.Held, s.Sink.Taken = "x", "a\t" },
	} {
		s := base
		change(&s)
		list = append(list, s)
	}
	for i, a := range list {
		for k, b := range list {
			// What is equal need not be in the same memory.
			b.Writer.Held, b.Sink.Taken = strings.Clone(b.Writer.Held), strings.Clone(b.Sink.Taken)
			if got := impl.SameSession(a, b); got != (i == k) {
				t.Errorf("SameSession(%+v, %+v) = %t", a, b, got)
			}
		}
	}
}

// Chapter 1: results share no memory with the arguments, which a sink would otherwise keep, and arguments do not change.
func TestSinkResultsAreNew(t *testing.T) {
	text := strings.Repeat("a", 1000)
	for _, room := range []int{1, 999, 1000, 1001} {
		if k, _ := impl.TakeText(alive(room, ""), text); isPartOf(k.Taken, text) {
			t.Errorf("with room for %d bytes, what is taken is a part of the text", room)
		}
	}
	if k, _ := impl.TakeText(alive(5, text), ""); isPartOf(k.Taken, text) {
		t.Error("what has been taken before is a part of the argument")
	}
	backing := []impl.Op{initOp(ordinaryConfig), writeOp("a\n"), writeOp("b"), flushOp(), writeOp("spare")}
	want := slices.Clone(backing)
	s, codes := impl.RunOps(session(impl.Writer{}, alive(2, "")), backing[:3])
	again, others := impl.RunOps(s, backing[:3])
	others[0] = 77
	if s.Sink != alive(0, "a\n") || again.Sink != dead(0, "a\n") || !slices.Equal(codes, []int{0, 0, 0}) || !slices.Equal(backing, want) {
		t.Errorf("the sessions become %+v and %+v, with the codes %d, and the operations %+v", s, again, codes, backing)
	}
	chunks := []string{"a", "b", "spare"}
	ops := impl.OpsOf(ordinaryConfig, chunks[:2])
	more := impl.OpsOf(ordinaryConfig, chunks[:2])
	more[1].Text = "changed"
	if !slices.Equal(chunks, []string{"a", "b", "spare"}) || ops[1].Text != "a" {
		t.Errorf("the chunks are %q and the operations %+v", chunks, ops)
	}
}

func TestLongSessions(t *testing.T) {
	const n = 5000
	layout := strings.Repeat("a b\n\n", n)
	chunks := chunksOf(strings.Repeat("a\tb\n\n", n), 1)
	for _, room := range []int{0, 7, len(layout) - 1, len(layout), len(layout) + 1} {
		s, codes := impl.RunOps(session(impl.Writer{}, alive(room, "")), impl.OpsOf(ordinaryConfig, chunks))
		want := alive(room-len(layout), layout)
		if room < len(layout) {
			want = dead(0, layout[:room])
		}
		// The next five chunks are needed for five more bytes.
		failed := min(len(codes), 5*(room/5)+5)
		if s != session(holding(ordinaryConfig, ""), want) || slices.Index(codes[:failed], 3) >= 0 || slices.Contains(codes[failed:], 0) {
			t.Errorf("with room for %d bytes, %d bytes are taken, %d bytes of room are left, and dead is %t", room, len(s.Sink.Taken), s.Sink.Room, s.Sink.Dead)
		}
	}
	long := strings.Repeat("a\tb\f", 30000)
	s, code := impl.RunOp(session(holding(ordinaryConfig, ""), alive(119999, "")), writeOp(long))
	if s != session(holding(ordinaryConfig, ""), dead(0, strings.Repeat("a b\n", 30000)[:119999])) || code != 3 {
		t.Errorf("of a long chunk, %d bytes are taken, and the code is %d", len(s.Sink.Taken), code)
	}
}

// A closed text with a cell that is too wide has the empty layout: the sink is not given it.
func TestSinksOfTooWideCells(t *testing.T) {
	wide := strings.Repeat("a", 100001)
	for _, room := range []int{-1, 0, 5} {
		s := session(holding(ordinaryConfig, "x\t"), alive(room, "x"))
		if next, code := impl.RunOp(s, writeOp("\n"+wide+"\t\n\ny")); next != session(holding(ordinaryConfig, "y"), s.Sink) || code != 0 {
			t.Errorf("a cell with the width 100001 leaves %.9q.. and %+v, with the code %d", next.Writer.Held, next.Sink, code)
		}
	}
	s := session(holding(ordinaryConfig, "x\t"), dead(5, "x"))
	if next, code := impl.RunOp(s, writeOp("\n"+wide+"\t\n\ny")); next != session(holding(ordinaryConfig, "y"), s.Sink) || code != 3 {
		t.Errorf("a cell with the width 100001 leaves %.9q.. and the dead sink %+v, with the code %d", next.Writer.Held, next.Sink, code)
	}
}
