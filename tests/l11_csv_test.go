package tests

import (
	"fmt"
	"runtime"
	"slices"
	"strings"
	"testing"
	"time"

	"loop.example/g00819/impl"
)

// hardFields are fields that must be quoted, and some that must not although they look so.
var hardFields = []string{"", "a", " ", ",", "\"", "\n", "\r", "\r\n", " a", "a ", "a b", "\"\"", "a\"b", "'", "\t", "\xff", "\u4e2d"}

// quoteField looks at each byte of a field.
func quoteField(s string) string {
	plain, doubled := s != "" && s[0] != 32 && s[len(s)-1] != 32, ""
	for _, b := range []byte(s) {
		plain = plain && b != 44 && b != 34 && b != 10 && b != 13
		if b == 34 {
			doubled += "\""
		}
		doubled += string([]byte{b})
	}
	if plain {
		return s
	}
	return "\"" + doubled + "\""
}

func formatCsv(rows [][]string) string {
	text := ""
	for _, fields := range rows {
		for i, s := range fields {
			if i > 0 {
				text += ","
			}
			text += quoteField(s)
		}
		text += "\n"
	}
	return text
}

// parseCsv goes through a text byte by byte, and refuses it at the first one that is not allowed.
func parseCsv(s string) ([][]string, bool) {
	var rows [][]string
	var fields []string
	field, at := "", "the beginning of a record"
	for i := 0; i < len(s); i++ {
		if at == "quoted text" && s[i] == '"' && i+1 < len(s) && s[i+1] == '"' {
			field += "\""
			i++
			continue
		}
		if at != "quoted text" && s[i] == '\r' && i+1 < len(s) && s[i+1] == '\n' {
			i++
		}
		switch {
		case at == "quoted text" && s[i] == '"':
			at = "the end of a quoted field"
		case at == "quoted text":
			field += s[i : i+1]
		case s[i] == '\n' && at == "the beginning of a record":
			rows = append(rows, nil)
		case s[i] == '\n':
			rows, fields = append(rows, append(fields, field)), nil
			field, at = "", "the beginning of a record"
		case s[i] == ',':
			fields = append(fields, field)
			field, at = "", "the beginning of a field"
		case s[i] == '"' && strings.HasPrefix(at, "the beginning"):
			at = "quoted text"
		case s[i] == '"' || at == "the end of a quoted field":
			return nil, false
		default:
			field += s[i : i+1]
			at = "other text"
		}
	}
	if at == "quoted text" {
		return nil, false
	}
	if at != "the beginning of a record" {
		rows = append(rows, append(fields, field))
	}
	return rows, true
}

func tableOfCsv(s string) (impl.Table, bool) {
	rows, ok := parseCsv(s)
	if !ok || len(rows) == 0 || tableCode(impl.Table{Head: rows[0], Rows: rows[1:]}) != 0 {
		return impl.Table{}, false
	}
	return impl.Table{Head: rows[0], Rows: rows[1:]}, true
}

// linesOfTable returns Head and the rows.
func linesOfTable(x impl.Table) [][]string {
	return append([][]string{x.Head}, x.Rows...)
}

// checkParsed compares what is read from a text with what is expected.
func checkParsed(t *testing.T, s string, want [][]string, wantOk bool) {
	t.Helper()
	if rows, ok := impl.ParseCsv(s); !sameRows(rows, want) || ok != wantOk {
		t.Errorf("ParseCsv(%.300q) = %.300q, %t, want %.300q, %t", s, rows, ok, want, wantOk)
	}
}

// checkTableRead compares the table that is read from a text with what is expected.
func checkTableRead(t *testing.T, s string, want impl.Table, wantOk bool) {
	t.Helper()
	if x, ok := impl.TableOfCsv(s); tableText(x) != tableText(want) || ok != wantOk {
		t.Errorf("TableOfCsv(%.300q) = %.300s, %t, want %.300s, %t", s, tableText(x), ok, tableText(want), wantOk)
	}
}

func TestQuoteField(t *testing.T) {
	for _, x := range []struct{ s, want string }{
		{"", `""`},
		{"a", "a"},
		{"iron nut", "iron nut"},
		// A space counts at the ends.
		{" ", `" "`},
		{"  ", `"  "`},
		{" a", `" a"`},
		{"a ", `"a "`},
		{" a ", `" a "`},
		{"a b", "a b"},
		{"a  b", "a  b"},
		// The others count everywhere.
		{",", `","`},
		{",a", `",a"`},
		{"a,b", `"a,b"`},
		{"a,", `"a,"`},
		{`"`, `""""`},
		{`"a`, `"""a"`},
		{`a"b`, `"a""b"`},
		{`a"`, `"a"""`},
		{"\n", "\"\n\""},
		{"\na", "\"\na\""},
		{"a\nb", "\"a\nb\""},
		{"a\n", "\"a\n\""},
		{"\r", "\"\r\""},
		{"\ra", "\"\ra\""},
		{"a\rb", "\"a\rb\""},
		{"a\r", "\"a\r\""},
		{"a\r\nb", "\"a\r\nb\""},
		// Several quotes, each of which is doubled.
		{`""`, `""""""`},
		{`"""`, `""""""""`},
		{`"a"`, `"""a"""`},
		{`a""b"c`, `"a""""b""c"`},
		{`a","b`, `"a"",""b"`},
		// Other bytes, of which some are like those above elsewhere.
		{"'", "'"},
		{"''", "''"},
		{";", ";"},
		{"a\\\"b", "\"a\\\"\"b\""},
		{"\\", "\\"},
		{"\t", "\t"},
		{"\ta\t", "\ta\t"},
		{"\v\f", "\v\f"},
		{"\x00", "\x00"},
		{"#a", "#a"},
		{"=1+1", "=1+1"},
		{"-7", "-7"},
		{"\u00a0a\u00a0", "\u00a0a\u00a0"},
		{"\u2028", "\u2028"},
		{"\u3000", "\u3000"},
		{"\uff0c\u201c\u201d", "\uff0c\u201c\u201d"},
		{"\u4e2d\u6587", "\u4e2d\u6587"},
		{"\u4e2d,\u6587", "\"\u4e2d,\u6587\""},
		{"\ufeffa", "\ufeffa"},
		{"\xff\xfe", "\xff\xfe"},
		{"\xff,\xfe", "\"\xff,\xfe\""},
		{"\xe4\xb8\"", "\"\xe4\xb8\"\"\""},
		{"\xc0\xac\xc0\xa2", "\xc0\xac\xc0\xa2"},
	} {
		if got := impl.QuoteField(x.s); got != x.want {
			t.Errorf("QuoteField(%q) = %q, want %q", x.s, got, x.want)
		}
	}
}

func TestQuoteFieldByDefinition(t *testing.T) {
	texts := textsOver("a ,\"\n\r", 5)
	for b := range 256 {
		for _, s := range []string{"", "a", "\u4e2d", "\xff", strings.Repeat("b", 20), strings.Repeat("\xe4", 20)} {
			c := string([]byte{byte(b)})
			texts = append(texts, c+s, s+c, s+c+s, c+s+c, s+c+c+s)
		}
	}
	for _, s := range texts {
		if got, want := impl.QuoteField(s), quoteField(s); got != want {
			t.Fatalf("QuoteField(%q) = %q, want %q", s, got, want)
		}
	}
}

func TestFormatCsv(t *testing.T) {
	for _, x := range []struct {
		rows [][]string
		want string
	}{
		{nil, ""},
		{[][]string{}, ""},
		// Rows without elements.
		{[][]string{nil}, "\n"},
		{[][]string{{}}, "\n"},
		{[][]string{{}, nil, {}}, "\n\n\n"},
		{[][]string{nil, {"a"}}, "\na\n"},
		{[][]string{{"a"}, nil}, "a\n\n"},
		{[][]string{{"a"}, {}, {"b", "c"}}, "a\n\nb,c\n"},
		// Empty elements.
		{[][]string{{""}}, "\"\"\n"},
		{[][]string{{"", ""}}, "\"\",\"\"\n"},
		{[][]string{{""}, {}, {""}}, "\"\"\n\n\"\"\n"},
		{[][]string{{"a", "", "b"}}, "a,\"\",b\n"},
		{[][]string{{"", "a"}, {"a", ""}}, "\"\",a\na,\"\"\n"},
		// Rows of all lengths.
		{[][]string{{"a"}}, "a\n"},
		{[][]string{{"a", "b", "c"}}, "a,b,c\n"},
		{[][]string{{"a"}, {"b"}, {"c"}}, "a\nb\nc\n"},
		{[][]string{{"a", "b"}, {"c", "d", "e"}, {"f"}}, "a,b\nc,d,e\nf\n"},
		{[][]string{slices.Repeat(row("a"), 12)}, "a,a,a,a,a,a,a,a,a,a,a,a\n"},
		// Elements that must be quoted.
		{[][]string{{"a,b", "c\"d"}, {"e\nf", " g"}, {"\r", "h i"}}, "\"a,b\",\"c\"\"d\"\n\"e\nf\",\" g\"\n\"\r\",h i\n"},
		{[][]string{{","}, {"\n"}}, "\",\"\n\"\n\"\n"},
		{[][]string{{"\xff", "\u4e2d"}}, "\xff,\u4e2d\n"},
	} {
		if got := impl.FormatCsv(x.rows); got != x.want {
			t.Errorf("FormatCsv(%q) = %q, want %q", x.rows, got, x.want)
		}
	}
}

func TestParseCsv(t *testing.T) {
	for _, x := range []struct {
		s    string
		want [][]string
	}{
		// Records and their ends.
		{"", nil},
		{"\n", [][]string{nil}},
		{"\n\n\n", [][]string{nil, nil, nil}},
		{"a", [][]string{{"a"}}},
		{"a\n", [][]string{{"a"}}},
		{"a\n\n", [][]string{{"a"}, nil}},
		{"\na", [][]string{nil, {"a"}}},
		{"a\nb", [][]string{{"a"}, {"b"}}},
		{"a\nb\n", [][]string{{"a"}, {"b"}}},
		{"a\n\nb\n", [][]string{{"a"}, nil, {"b"}}},
		{"a,b\nc,d", [][]string{{"a", "b"}, {"c", "d"}}},
		{"a,b\nc,d\n", [][]string{{"a", "b"}, {"c", "d"}}},
		{"a\nb,c,d\n\ne,f", [][]string{{"a"}, {"b", "c", "d"}, nil, {"e", "f"}}},
		{"\"a\"", [][]string{{"a"}}},
		{"\"a\"\n", [][]string{{"a"}}},
		{"\"\n\"", [][]string{{"\n"}}},
		// The byte 13 before a newline.
		{"a\r\n", [][]string{{"a"}}},
		{"a,b\r\nc,d\r\n", [][]string{{"a", "b"}, {"c", "d"}}},
		{"a\r\nb", [][]string{{"a"}, {"b"}}},
		{"\r\n", [][]string{nil}},
		{"\r\n\r\n", [][]string{nil, nil}},
		{"a,\r\n", [][]string{{"a", ""}}},
		{",\r\n", [][]string{{"", ""}}},
		{"\"a\"\r\n", [][]string{{"a"}}},
		{"\"a\"\r\n\"b\"\r\n", [][]string{{"a"}, {"b"}}},
		{"a,\"b\"\r\n\r\nc", [][]string{{"a", "b"}, nil, {"c"}}},
		// Two of them, of which only the second is directly before it.
		{"a\r\r\n", [][]string{{"a\r"}}},
		{"\r\r\n", [][]string{{"\r"}}},
		{"a,\r\r\n", [][]string{{"a", "\r"}}},
		{"\r\r\r\nb", [][]string{{"\r\r"}, {"b"}}},
		// At the end of the text, where no newline follows.
		{"\r", [][]string{{"\r"}}},
		{"a\r", [][]string{{"a\r"}}},
		{"a\n\r", [][]string{{"a"}, {"\r"}}},
		{"a,\r", [][]string{{"a", "\r"}}},
		{"a\r\r", [][]string{{"a\r\r"}}},
		// Inside a field, or at its end before a comma.
		{"a\rb\n", [][]string{{"a\rb"}}},
		{"\ra\n", [][]string{{"\ra"}}},
		{"a\r,b\n", [][]string{{"a\r", "b"}}},
		{"\r,\r\n", [][]string{{"\r", ""}}},
		{"\n\ra", [][]string{nil, {"\ra"}}},
		// Within quotes, also before a newline.
		{"\"\r\"\n", [][]string{{"\r"}}},
		{"\"a\r\nb\"\r\n", [][]string{{"a\r\nb"}}},
		{"\"\r\n\",\"\r\n\"", [][]string{{"\r\n", "\r\n"}}},
		{"\"a\r\"\n", [][]string{{"a\r"}}},
		{"\"\"\"\r\n\"\"\"\r\n", [][]string{{"\"\r\n\""}}},
		// Newlines and commas within quotes.
		{"\"a\nb\",c\n", [][]string{{"a\nb", "c"}}},
		{"a,\"\n\"\nb", [][]string{{"a", "\n"}, {"b"}}},
		{"\"\n\n\"\n\n", [][]string{{"\n\n"}, nil}},
		{"\"a\n\"\n\"\nb\"", [][]string{{"a\n"}, {"\nb"}}},
		{"\",\"", [][]string{{","}}},
		{"\"a,b\",\",\"\n", [][]string{{"a,b", ","}}},
		{"\"a\"\",\"\"b\"", [][]string{{"a\",\"b"}}},
		// Empty fields.
		{",", [][]string{{"", ""}}},
		{",,", [][]string{{"", "", ""}}},
		{",a", [][]string{{"", "a"}}},
		{"a,", [][]string{{"a", ""}}},
		{"a,,b", [][]string{{"a", "", "b"}}},
		{",a,\n", [][]string{{"", "a", ""}}},
		{",\n,\n", [][]string{{"", ""}, {"", ""}}},
		{"\n,\n\n", [][]string{nil, {"", ""}, nil}},
		{"\"a\",", [][]string{{"a", ""}}},
		{",\"a\"", [][]string{{"", "a"}}},
		{"\"a\",,\"b\"\n", [][]string{{"a", "", "b"}}},
		// Quoted empty fields: such a record is not empty.
		{"\"\"", [][]string{{""}}},
		{"\"\"\n", [][]string{{""}}},
		{"\"\"\r\n", [][]string{{""}}},
		{"\"\",\"\"\n", [][]string{{"", ""}}},
		{"a,\"\",b", [][]string{{"a", "", "b"}}},
		{",\"\"", [][]string{{"", ""}}},
		{"\"\",", [][]string{{"", ""}}},
		{"\"\"\n\n\"\"", [][]string{{""}, nil, {""}}},
		// Doubled quotes.
		{"\"\"\"\"", [][]string{{"\""}}},
		{"\"\"\"a\"", [][]string{{"\"a"}}},
		{"\"a\"\"b\"", [][]string{{"a\"b"}}},
		{"\"a\"\"\"", [][]string{{"a\""}}},
		{"\"\"\"a\"\"\"", [][]string{{"\"a\""}}},
		{"\"\"\"\"\"\"", [][]string{{"\"\""}}},
		{"\"a\"\"\"\"b\",\"\"\"\"\n", [][]string{{"a\"\"b", "\""}}},
		{"\"a\"\"\nb\"\n", [][]string{{"a\"\nb"}}},
		// Spaces belong to the fields.
		{" ", [][]string{{" "}}},
		{" a , b ", [][]string{{" a ", " b "}}},
		{"\" a \"", [][]string{{" a "}}},
		{"a b\n \n", [][]string{{"a b"}, {" "}}},
		// Other bytes are not special.
		{"'a,b'", [][]string{{"'a", "b'"}}},
		{"a;b\tc", [][]string{{"a;b\tc"}}},
		{"#a\n", [][]string{{"#a"}}},
		{"\\,\\n\n", [][]string{{"\\", "\\n"}}},
		{"\v\f\x00\n", [][]string{{"\v\f\x00"}}},
		{"\xff,\xe4\xb8\n\xfe", [][]string{{"\xff", "\xe4\xb8"}, {"\xfe"}}},
		{"\"\xff\"\"\xe4\"", [][]string{{"\xff\"\xe4"}}},
		{"\u4e2d,\"\u6587\"\n\u2028", [][]string{{"\u4e2d", "\u6587"}, {"\u2028"}}},
		{"\ufeffa,b", [][]string{{"\ufeffa", "b"}}},
	} {
		checkParsed(t, x.s, x.want, true)
	}
}

func TestParseCsvRefused(t *testing.T) {
	for _, s := range []string{
		// A quoted field that does not end.
		`"`,
		`"a`,
		"\"a\n",
		"\"a\r\n",
		`"a,b`,
		`a,"`,
		`a,"b`,
		"a\n\"b",
		"\"a\nb,c\nd\n",
		`"""`,
		`"a""`,
		`"a""b`,
		`"""a`,
		`"""""`,
		"\"a\"\"\n",
		`"a","`,
		// One that is followed by something else.
		`"a"b`,
		"\"a\"b\n",
		`"a" `,
		`"a" ,b`,
		"\"a\" \n",
		"\"a\"\t,b",
		"\"a\"\r",
		"\"a\"\r,b",
		"\"a\"\rb\n",
		"\"a\"\r\r\n",
		"\"\"\r",
		`""a`,
		`"" ""`,
		`"a" "b"`,
		`"a"b"c"`,
		`"a"b"`,
		`"a" ""`,
		`"a"b,c`,
		`a,"b"c`,
		"a,\"b\"c\nd",
		"\"a\"\x00",
		"\"a\"\xff",
		"\"a\"\u00a0",
		`"a";"b"`,
		// A quote inside another field.
		`a"`,
		`a"b`,
		`a""b`,
		`a""`,
		`a"b"`,
		`a"b"c`,
		` "a"`,
		` ""`,
		`a, "b"`,
		"\t\"a\"",
		"\r\"a\"",
		"\ufeff\"a\"",
		"\xff\"",
		`a,b"`,
		"a\"\nb\"\n",
		"a\"\r\nb",
		"a\n\nb\"\n",
		"a\"b,c\nd\"\n",
		// Records that are valid, before and after.
		"a,b\nc\"\nd,e\n",
		"a,b\n\"c\"d\n\"e\"\n",
		"a\n\"b",
		"\n\n\"",
	} {
		checkParsed(t, s, nil, false)
		checkTableRead(t, s, impl.Table{}, false)
		checkTableRead(t, "a\nb\n"+s, impl.Table{}, false)
	}
}

// The text around a byte decides whether it is allowed: each of them stands at each place.
func TestAllBytesOfRecords(t *testing.T) {
	for b := range 256 {
		for _, s := range []string{"?", "a?", "?a", "a?b\n", "?\n", "?,a", "a,?", "\"?\"", "\"?", "?\"", "\"a\"?", "\"a\"?\n", "\"a\"?,b", "?\"a\"", "a\n?\"b\"", "\"a\"\"?\"", "a\r?b", "\"a?\"\"?b\"\n?\n"} {
			s = strings.ReplaceAll(s, "?", string([]byte{byte(b)}))
			rows, ok := parseCsv(s)
			checkParsed(t, s, rows, ok)
		}
	}
}

func TestParseCsvByDefinition(t *testing.T) {
	for _, texts := range [][]string{textsOver("a\",\n\r ", 5), textsOver("a\",\n\r", 6), textsOver("a\",\n", 7), textsOver("\"\n", 10)} {
		for _, s := range texts {
			rows, ok := parseCsv(s)
			if checkParsed(t, s, rows, ok); t.Failed() {
				return
			}
		}
	}
}

// writings returns the ways to write a record: each field between quotes and, where that is allowed, without them.
func writings(fields []string) []string {
	texts := []string{""}
	for i, s := range fields {
		ways := []string{"\"" + strings.ReplaceAll(s, "\"", "\"\"") + "\""}
		if !strings.ContainsAny(s, ",\"\n\r") && (s != "" || len(fields) > 1) {
			ways = append(ways, s)
		}
		var longer []string
		for _, text := range texts {
			for _, way := range ways {
				longer = append(longer, text+","[:min(i, 1)]+way)
			}
		}
		texts = longer
	}
	return texts
}

// P1: records are recovered, however they are written.
func TestRecordsAreRecoveredFromAllWritings(t *testing.T) {
	var rows [][]string
	eachList([]string{"", "a", " b ", "\",\r\n"}, 2, func(fields []string) { rows = append(rows, slices.Clone(fields)) })
	eachList(rows, 2, func(list [][]string) {
		texts := []string{""}
		for i, fields := range list {
			ends := []string{"\n", "\r\n"}
			// A record without fields is not there without its newline.
			if i == len(list)-1 && len(fields) > 0 {
				ends = append(ends, "")
			}
			var longer []string
			for _, text := range texts {
				for _, way := range writings(fields) {
					for _, end := range ends {
						longer = append(longer, text+way+end)
					}
				}
			}
			texts = longer
		}
		for _, s := range texts {
			checkParsed(t, s, list, true)
		}
	})
}

// P1: rows are recovered from FormatCsv, which is compared with the definition as well.
func TestRecordsAreRecovered(t *testing.T) {
	check := func(rows [][]string) {
		t.Helper()
		s := impl.FormatCsv(rows)
		if want := formatCsv(rows); s != want {
			t.Fatalf("FormatCsv(%q) = %q, want %q", rows, s, want)
		}
		checkParsed(t, s, rows, true)
	}
	for _, s := range textsOver("a ,\"\n\r", 4) {
		check([][]string{{s}})
		check([][]string{{s, s}, nil, {s}})
	}
	eachList(hardFields, 3, func(fields []string) {
		check([][]string{fields})
		check([][]string{fields, fields})
	})
	var rows [][]string
	eachList([]string{"", "a", "\n\"", "\r"}, 2, func(fields []string) { rows = append(rows, slices.Clone(fields)) })
	eachList(rows, 3, check)
}

// P1: tables are recovered; what is no table has no text and is not read.
func TestTablesAreRecovered(t *testing.T) {
	tables := slices.Concat(someTables(), validTables())
	eachList(hardFields, 2, func(fields []string) {
		tables = append(tables, impl.Table{Head: fields}, impl.Table{Head: row("a", "b"), Rows: [][]string{fields, {"c", "d"}, fields}})
	})
	for _, x := range tables {
		s, want := formatCsv(linesOfTable(x)), impl.Table{}
		valid := tableCode(x) == 0
		if valid {
			want = x
		}
		checkTableRead(t, s, want, valid)
		if y, _ := impl.TableOfCsv(s); valid && !impl.SameTable(x, y) {
			t.Errorf("the table of %q is not the same", s)
		}
		if got := impl.CsvOfTable(x); valid && got != s || !valid && got != "" {
			t.Errorf("CsvOfTable(%.300s) = %.300q", tableText(x), got)
		}
	}
}

func TestTableOfCsv(t *testing.T) {
	for _, x := range []struct {
		s    string
		want impl.Table
		ok   bool
	}{
		{"name,n\nnut,12\nbolt,-7\n", impl.Table{Head: row("name", "n"), Rows: [][]string{{"nut", "12"}, {"bolt", "-7"}}}, true},
		{"name,n\r\nnut,12", impl.Table{Head: row("name", "n"), Rows: [][]string{{"nut", "12"}}}, true},
		{"a", impl.Table{Head: row("a")}, true},
		{"a\n", impl.Table{Head: row("a")}, true},
		{"\"\"", impl.Table{Head: row("")}, true},
		{",", impl.Table{Head: row("", "")}, true},
		{"\"a,b\",\"c\"\"d\"\n\" e\",\n", impl.Table{Head: row("a,b", "c\"d"), Rows: [][]string{{" e", ""}}}, true},
		{"\xff\n\xe4\xb8\n\u4e2d", impl.Table{Head: row("\xff"), Rows: [][]string{{"\xe4\xb8"}, {"\u4e2d"}}}, true},
		// No record, and records without fields.
		{"", impl.Table{}, false},
		{"\n", impl.Table{}, false},
		{"\r\n", impl.Table{}, false},
		{"\n\n", impl.Table{}, false},
		{"\na\n", impl.Table{}, false},
		{"\n\"a\",b", impl.Table{}, false},
		{"a\n\n", impl.Table{}, false},
		{"a\n\nb\n", impl.Table{}, false},
		{"a\r\nb\r\n\r\n", impl.Table{}, false},
		// Records of different lengths.
		{"a\nb,c\n", impl.Table{}, false},
		{"a,b\nc\n", impl.Table{}, false},
		{"a,b\nc,d\ne\n", impl.Table{}, false},
		{"a,b\nc,\n", impl.Table{Head: row("a", "b"), Rows: [][]string{{"c", ""}}}, true},
		{"a,b\nc,d,\n", impl.Table{}, false},
		{"a\n\"\"\n", impl.Table{Head: row("a"), Rows: [][]string{{""}}}, true},
		// Elements that are not valid.
		{"a\tb\n", impl.Table{}, false},
		{"a\nb\x7f\n", impl.Table{}, false},
		{"a\n\"b\nc\"\n", impl.Table{}, false},
		{"a\r", impl.Table{}, false},
		{"a\r\r\n", impl.Table{}, false},
		{"a\n\"b\r\"\n", impl.Table{}, false},
		{"a\n\x00", impl.Table{}, false},
		{strings.Repeat("a", 200) + "\n", impl.Table{Head: row(strings.Repeat("a", 200))}, true},
		{strings.Repeat("a", 201) + "\n", impl.Table{}, false},
		{"a\n" + strings.Repeat("\u4e2d", 67) + "\n", impl.Table{}, false},
		// The quotes do not count for the length of an element.
		{"\"" + strings.Repeat("\"\"", 200) + "\"\n", impl.Table{Head: row(strings.Repeat("\"", 200))}, true},
		{"\"" + strings.Repeat("\"\"", 201) + "\"\n", impl.Table{}, false},
		// The number of columns and rows.
		{"a,b,c,d,e,f,g,h\n", impl.Table{Head: row("a", "b", "c", "d", "e", "f", "g", "h")}, true},
		{"a,b,c,d,e,f,g,h,i\n", impl.Table{}, false},
		{strings.Repeat("a,b,c,d,e,f,g,h,i\n", 3), impl.Table{}, false},
		{strings.Repeat("a\n", 61), impl.Table{Head: row("a"), Rows: slices.Repeat([][]string{{"a"}}, 60)}, true},
		{strings.Repeat("a\n", 62), impl.Table{}, false},
		{strings.Repeat("a\n", 61) + "a", impl.Table{}, false},
		{strings.Repeat("a\n", 61) + "\n", impl.Table{}, false},
	} {
		checkTableRead(t, x.s, x.want, x.ok)
	}
}

func TestTableOfCsvByDefinition(t *testing.T) {
	for _, s := range textsOfPieces([]string{"a", ",", "\n", "\"", "\r", "\t", " "}, 5) {
		x, ok := tableOfCsv(s)
		if checkTableRead(t, s, x, ok); t.Failed() {
			return
		}
	}
}

func TestCsvOfTable(t *testing.T) {
	for _, x := range []struct {
		table impl.Table
		want  string
	}{
		{impl.Table{Head: row("name", "n"), Rows: [][]string{{"nut", "12"}, {"bolt", "-7"}}}, "name,n\nnut,12\nbolt,-7\n"},
		// Without rows.
		{impl.Table{Head: row("a")}, "a\n"},
		{impl.Table{Head: row("a", "b"), Rows: [][]string{}}, "a,b\n"},
		{impl.Table{Head: row("")}, "\"\"\n"},
		// Elements that must be quoted.
		{impl.Table{Head: row("a,b", "c\"d"), Rows: [][]string{{" e", "f "}, {"", "g h"}}}, "\"a,b\",\"c\"\"d\"\n\" e\",\"f \"\n\"\",g h\n"},
		{impl.Table{Head: row(" "), Rows: [][]string{{"\""}, {","}}}, "\" \"\n\"\"\"\"\n\",\"\n"},
		{impl.Table{Head: row("\xff"), Rows: [][]string{{"\u4e2d,"}}}, "\xff\n\"\u4e2d,\"\n"},
		// Tables that are not valid.
		{impl.Table{}, ""},
		{impl.Table{Head: []string{}, Rows: [][]string{}}, ""},
		{impl.Table{Rows: [][]string{{}}}, ""},
		{impl.Table{Rows: [][]string{{"a"}}}, ""},
		{impl.Table{Head: row("a", "b"), Rows: [][]string{{"c"}}}, ""},
		{impl.Table{Head: row("a"), Rows: [][]string{{"b"}, nil}}, ""},
		{impl.Table{Head: row("a\nb")}, ""},
		{impl.Table{Head: row("a"), Rows: [][]string{{"\r"}}}, ""},
		{impl.Table{Head: row("a"), Rows: [][]string{{strings.Repeat("b", 201)}}}, ""},
		{tableOf(9, 1), ""},
		{tableOf(2, 61), ""},
	} {
		if got := impl.CsvOfTable(x.table); got != x.want {
			t.Errorf("CsvOfTable(%s) = %q, want %q", tableText(x.table), got, x.want)
		}
	}
}

// Chapter 1: results share no memory with the arguments or with each other, and arguments do not change, nor what is behind them.
func TestCsvResultsAreNew(t *testing.T) {
	for _, rows := range [][][]string{{{"a"}}, {{"a", "b"}, {}, {""}}, {{"a,b", "\""}, {" ", "c"}, {"d\n", "\r"}}, rowsOf(8, 8, 8, 8, 8)} {
		roomy := roomyRows(rows)
		before := wholeRows(roomy)
		s := impl.FormatCsv(roomy)
		if after := wholeRows(roomy); s != formatCsv(roomy) || after != before {
			t.Errorf("FormatCsv makes %q of the rows %s, and changes them to %s", s, before, after)
		}
		records, _ := impl.ParseCsv(s)
		others, _ := impl.ParseCsv(s)
		again, _ := impl.ParseCsv(s)
		clear(again[:cap(again)])
		if !sameRows(records, roomy) || !areSeparate(slices.Concat(records, others)...) {
			t.Errorf("the records of %q share memory: %q", s, records)
		}
		checkParsed(t, s, roomy, true)
	}
	for _, size := range [][2]int{{1, 1}, {2, 3}, {8, 58}} {
		first := tableOf(size[0], size[1])
		x := impl.Table{Head: withSpare(first.Head), Rows: roomyRows(first.Rows)}
		before := fmt.Sprintf("%q", x.Head[:cap(x.Head)]) + wholeRows(x.Rows)
		s := impl.CsvOfTable(x)
		if after := fmt.Sprintf("%q", x.Head[:cap(x.Head)]) + wholeRows(x.Rows); s != formatCsv(linesOfTable(x)) || after != before {
			t.Errorf("CsvOfTable makes %q of the table %s, and changes it to %s", s, before, after)
		}
		y, _ := impl.TableOfCsv(s)
		z, _ := impl.TableOfCsv(s)
		clear(z.Rows[:cap(z.Rows)])
		if tableText(y) != tableText(x) || !areSeparate(append(y.Rows, y.Head, z.Head)...) {
			t.Errorf("the rows of the table of %q share memory: %s", s, tableText(y))
		}
		checkTableRead(t, s, x, true)
	}
}

// No call leaves a part of its work behind, whether its text is refused early, late or not at all.
func TestNothingGoesOnAfterParseCsv(t *testing.T) {
	before := runtime.NumGoroutine()
	for range 100 {
		for _, s := range []string{"", "a\n", "a\"\n" + strings.Repeat("b\n", 100), strings.Repeat("a\n", 100) + "\"b", "\"a\"b\n\"c\"d\n\n"} {
			impl.ParseCsv(s)
			impl.TableOfCsv(s)
		}
	}
	// What has ended may be counted for a moment.
	for range 500 {
		if runtime.NumGoroutine() <= before {
			return
		}
		time.Sleep(10 * time.Millisecond)
	}
	t.Errorf("there are %d goroutines after the calls and %d before them", runtime.NumGoroutine(), before)
}

func TestLongCsv(t *testing.T) {
	long := strings.Repeat("a\"\n,", 1<<20)
	quoted := "\"" + strings.ReplaceAll(long, "\"", "\"\"") + "\""
	if got := impl.QuoteField(long); got != quoted {
		t.Errorf("QuoteField of a long text has %d bytes, want %d", len(got), len(quoted))
	}
	for _, x := range []struct {
		s    string
		want [][]string
	}{
		{quoted, [][]string{{long}}},
		{quoted + "," + quoted + "\r\n", [][]string{{long, long}}},
		{quoted + "a", nil},
		{quoted[1:], nil},
		{quoted[:len(quoted)-1], nil},
		{strings.Repeat("a", 1<<22), [][]string{{strings.Repeat("a", 1<<22)}}},
		{strings.Repeat("a", 1<<22) + "\"", nil},
		{strings.Repeat(",", 1<<18), [][]string{make([]string, 1<<18+1)}},
		{strings.Repeat("\"\",", 1<<18), [][]string{make([]string, 1<<18+1)}},
		{strings.Repeat("\r", 1<<20) + "\n", [][]string{{strings.Repeat("\r", 1<<20-1)}}},
		{strings.Repeat("\n", 1<<16), make([][]string, 1<<16)},
		{strings.Repeat("a,b\r\n", 1<<16), slices.Repeat([][]string{{"a", "b"}}, 1<<16)},
		{strings.Repeat("a,b\r\n", 1<<16) + "\"", nil},
		{"\"a\"\"" + strings.Repeat("\n", 1<<20), nil},
	} {
		rows, ok := impl.ParseCsv(x.s)
		if ok != (x.want != nil) || !slices.EqualFunc(rows, x.want, slices.Equal[[]string]) {
			t.Errorf("ParseCsv of %.20q with %d bytes has %d rows, want %d", x.s, len(x.s), len(rows), len(x.want))
		}
		if _, ok := impl.TableOfCsv(x.s); ok {
			t.Errorf("TableOfCsv of %.20q with %d bytes is a table", x.s, len(x.s))
		}
	}
	many := slices.Repeat([][]string{{"a", ""}, nil}, 1<<16)
	if got, want := impl.FormatCsv(many), strings.Repeat("a,\"\"\n\n", 1<<16); got != want {
		t.Errorf("FormatCsv of many rows has %d bytes, want %d", len(got), len(want))
	}
	if got := impl.CsvOfTable(impl.Table{Head: row("a", "b"), Rows: many}); got != "" {
		t.Errorf("CsvOfTable of many rows has %d bytes", len(got))
	}
}
