package object_test

import (
	"fmt"
	"regexp"
	"slices"
	"strings"
	"testing"

	"footbridge/api"
	"footbridge/object"
)

func text(key, s string) api.Field { return api.Field{Key: key, Text: s} }

func list(key string, l ...string) api.Field { return api.Field{Key: key, List: l, Many: true} }

// sameField follows rule R3: a nil list is an empty one.
func sameField(a, b api.Field) bool {
	return a.Key == b.Key && a.Text == b.Text && a.Many == b.Many && slices.Equal(a.List, b.List)
}

// show tells fields in a failure's message, the first of them if there are many.
func show(l ...api.Field) string {
	return fmt.Sprintf("%.200s", fmt.Sprintf("%+v", l))
}

func mustPut(t *testing.T, l []api.Field, want string) {
	t.Helper()
	if got, err := object.Put(l); got != want || err != api.OK {
		t.Errorf("Put(%s) = %.60q, %d; want %.60q, OK", show(l...), got, err, want)
	}
}

func mustNotPut(t *testing.T, l ...api.Field) {
	t.Helper()
	if got, err := object.Put(l); got != "" || err != api.ErrForm {
		t.Errorf("Put(%s) = %.60q, %d; want \"\", ErrForm", show(l...), got, err)
	}
}

func mustRead(t *testing.T, s string, want []api.Field) {
	t.Helper()
	if got, err := object.Read(s); !slices.EqualFunc(got, want, sameField) || err != api.OK {
		t.Errorf("Read(%.60q) = %s, %d; want %s, OK", s, show(got...), err, show(want...))
	}
}

// mustNotRead also looks for the fields ahead of the fault: rule R2 lets none of them out.
func mustNotRead(t *testing.T, s string) {
	t.Helper()
	if got, err := object.Read(s); len(got) != 0 || err != api.ErrForm {
		t.Errorf("Read(%.60q) = %s, %d; want none, ErrForm", s, show(got...), err)
	}
}

// Promise 7.1, Put and Read: ordinary objects, empty keys, texts and lists, and strings with the object's own marks in them.
func TestPutAndRead(t *testing.T) {
	for _, c := range []struct {
		want string
		l    []api.Field
	}{
		{`{}`, nil},
		{`{}`, []api.Field{}},
		{`{"a":"b","c":["d"]}`, []api.Field{text("a", "b"), list("c", "d")}},
		{`{"a":"b"}`, []api.Field{text("a", "b")}},
		{`{"a":""}`, []api.Field{text("a", "")}},
		{`{"":""}`, []api.Field{{}}},
		{`{"":[]}`, []api.Field{{Many: true}}},
		{`{"":[""]}`, []api.Field{list("", "")}},
		{`{"a":[]}`, []api.Field{{Key: "a", Many: true, List: []string{}}}},
		{`{"a":""}`, []api.Field{{Key: "a", List: []string{}}}},
		{`{"a":["",""]}`, []api.Field{list("a", "", "")}},
		{`{"a":["x","x","x"]}`, []api.Field{list("a", "x", "x", "x")}},
		{`{"b":"x","a":"x"}`, []api.Field{text("b", "x"), text("a", "x")}},
		{`{"a":"x","A":"x","aa":"x","":"x"," a":"x"}`, []api.Field{text("a", "x"), text("A", "x"), text("aa", "x"), text("", "x"), text(" a", "x")}},
		{`{"a":[],"b":[],"c":"","d":["e"]}`, []api.Field{list("a"), list("b"), text("c", ""), list("d", "e")}},
		{`{"{\"a\":[":"]}","}":["],[","\",\"",","]}`, []api.Field{text(`{"a":[`, "]}"), list("}", "],[", `","`, ",")}},
		{`{"\u000a\\":"\u007f","\"":["\u0000","\\u000a"]}`, []api.Field{text("\n\\", "\x7f"), list("\"", "\x00", `\u000a`)}},
		{"{\"\xff\":\"\xc3\xa4\"}", []api.Field{text("\xff", "\u00e4")}},
		{`{"result":"1"}`, []api.Field{text("result", "1")}},
	} {
		mustPut(t, c.l, c.want)
		mustRead(t, c.want, c.l)
	}
}

// Promise 7.1, Put: two fields with one key, wherever they stand and of whatever kind they are.
func TestPutSameKeys(t *testing.T) {
	mustNotPut(t, text("a", "b"), text("a", "c"))
	mustNotPut(t, text("a", "b"), text("a", "b"))
	mustNotPut(t, text("a", ""), list("a"))
	mustNotPut(t, list("a", "x"), text("a", "x"))
	mustNotPut(t, list("a"), list("a"))
	mustNotPut(t, text("", ""), text("", ""))
	mustNotPut(t, text("\n", ""), text("\n", "x"))
	var l []api.Field
	for i := range 300 {
		l = append(l, text(fmt.Sprint(i), "same"))
	}
	for _, i := range []int{0, 1, 150, 299} {
		mustNotPut(t, append(slices.Clone(l), text(fmt.Sprint(i), "other"))...)
	}
	if _, err := object.Put(l); err != api.OK {
		t.Errorf("keys that differ: error %d", err)
	}
}

// Promise 7.1, Put: a field that has both a text and a list, or the one that its kind has not, among good ones.
func TestPutBothParts(t *testing.T) {
	for _, bad := range []api.Field{
		{Key: "k", Text: "x", Many: true},
		{Key: "k", Text: "x", Many: true, List: []string{"y"}},
		{Key: "k", Text: "\x00", Many: true, List: []string{}},
		{Key: "k", List: []string{"y"}},
		{Key: "k", List: []string{""}},
		{Key: "k", Text: "x", List: []string{"y"}},
		{Text: "x", Many: true},
		{List: []string{"y", "z"}},
	} {
		mustNotPut(t, bad)
		mustNotPut(t, bad, text("a", "b"))
		mustNotPut(t, text("a", "b"), bad)
		mustNotPut(t, list("a", "b"), bad, text("c", "d"))
		mustNotPut(t, bad, bad)
	}
}

// many returns as many fields, with keys that differ.
func many(count int) []api.Field {
	l := make([]api.Field, count)
	for i := range l {
		l[i] = text(fmt.Sprint("k", i), "v")
	}
	return l
}

// Promise 7.1: an object is read with up to MaxList fields and written with any number of them.
func TestMostFields(t *testing.T) {
	for _, count := range []int{1, 2, 255, 256, 257, 258, 1000} {
		l := many(count)
		var want []string
		for i := range count {
			want = append(want, fmt.Sprintf(`"k%d":"v"`, i))
		}
		s := "{" + strings.Join(want, ",") + "}"
		mustPut(t, l, s)
		if count <= 256 {
			mustRead(t, s, l)
		} else {
			mustNotRead(t, s)
		}
	}
	full, _ := object.Put(many(256))
	mustNotRead(t, strings.TrimSuffix(full, "}")+",}")
	mustNotRead(t, strings.TrimSuffix(full, "}")+`,"k255":"v"}`)
	mustNotRead(t, strings.TrimSuffix(full, "}"))
}

// Promise 7.1: a list is read with up to MaxList elements and written with any number of them; each list counts alone.
func TestMostElements(t *testing.T) {
	for _, count := range []int{1, 2, 255, 256, 257, 258, 1000} {
		elements := slices.Repeat([]string{"e"}, count)
		form := "[" + strings.TrimSuffix(strings.Repeat(`"e",`, count), ",") + "]"
		for _, c := range []struct {
			s string
			l []api.Field
		}{
			{`{"a":` + form + `}`, []api.Field{list("a", elements...)}},
			{`{"a":` + form + `,"b":"c"}`, []api.Field{list("a", elements...), text("b", "c")}},
			{`{"a":[],"b":` + form + `,"c":` + form + `}`, []api.Field{list("a"), list("b", elements...), list("c", elements...)}},
		} {
			mustPut(t, c.l, c.s)
			if count <= 256 {
				mustRead(t, c.s, c.l)
			} else {
				mustNotRead(t, c.s)
			}
		}
	}
	full, _ := object.Put([]api.Field{list("a", make([]string, 256)...)})
	mustNotRead(t, strings.TrimSuffix(full, "]}")+",]}")
	mustNotRead(t, strings.TrimSuffix(full, "]}")+"}")
}

// Promise 7.1: an object with both counts at their limit, and strings beyond the limits that other layers have.
func TestGreatObjects(t *testing.T) {
	l := make([]api.Field, 256)
	for i := range l {
		l[i] = list(fmt.Sprint(i), slices.Repeat([]string{"\n"}, 256)...)
	}
	s, err := object.Put(l)
	if err != api.OK {
		t.Fatalf("error %d", err)
	}
	mustRead(t, s, l)
	long := strings.Repeat("x", api.MaxText+1)
	mustPut(t, []api.Field{text(long, long), list("a", long)}, `{"`+long+`":"`+long+`","a":["`+long+`"]}`)
	mustRead(t, `{"`+long+`":"`+long+`","a":["`+long+`"]}`, []api.Field{text(long, long), list("a", long)})
}

// Promise 7.1, Read: things of JSON that Put does not write, marks that lack or are one too many, and keys that occur twice.
func TestReadWrongForms(t *testing.T) {
	for _, s := range []string{
		"", " ", "{", "}", "[", "]", "{{", "}{", "[]", `""`, `"a"`, `"a":"b"`, "null", "{}{}", "{}}", "{{}}", "{},", ",{}", "[{}]",
		" {}", "{ }", "{} ", "{}\n", "{}\x00", "\xef\xbb\xbf{}",
		"{,}", "{:}", `{""}`, `{"a"}`, `{"a":}`, `{:"b"}`, `{"a","b"}`, `{"a" "b"}`, `{"a""b"}`, `{"a"::"b"}`, `{"a"="b"}`,
		`{"a":"b",}`, `{,"a":"b"}`, `{"a":"b",,"c":"d"}`, `{"a":"b""c":"d"}`, `{"a":"b";"c":"d"}`, `{"a":"b"},"c":"d"}`,
		`{ "a":"b"}`, `{"a" :"b"}`, `{"a": "b"}`, `{"a":"b" }`, `{"a":"b", "c":"d"}`, "{\"a\":\"b\",\n\"c\":\"d\"}",
		`{"a":[ ]}`, `{"a":["b", "c"]}`, `{"a":["b" ]}`, `{"a":[ "b"]}`,
		`{"a":[}`, `{"a":]}`, `{"a":["b"}`, `{"a":"b"]}`, `{"a":["b",]}`, `{"a":[,"b"]}`, `{"a":[,]}`, `{"a":["b",,"c"]}`, `{"a":["b""c"]}`,
		`{"a":[["b"]]}`, `{"a":[[]]}`, `{"a":[{}]}`, `{"a":{}}`, `{"a":{"b":"c"}}`, `{"a":["b":"c"]}`, `{"a":["b"]]}`, `{"a":["b"],["c"]}`, `{"a":[]"b"}`, `{"a":[][]}`,
		`{["a"]:"b"}`, `{[]:[]}`, `["a":"b"]`, `["a"]`, `{"a":"b"]`, `["a":"b"}`, `("a":"b")`,
		`{a:"b"}`, `{'a':'b'}`, `{"a":b}`, `{"a":1}`, `{"a":null}`, `{"a":true}`, `{"a":[1]}`, `{1:"b"}`, `{"a":["b",1]}`,
		`{"a":"\n"}`, `{"a":"\u0041"}`, `{"a":"\u000A"}`, `{"\u0061":"b"}`, `{"a":["\/"]}`, "{\"a\":\"\n\"}", "{\"\t\":\"b\"}", "{\"a\":[\"\x7f\"]}",
		`{"a":"b`, `{"a":"b\"}`, `{"a":["b}`, `{"a":["b]}`, `{"a`, `{"a:"b"}`, `{a":"b"}`,
		`{"a":"b","a":"b"}`, `{"a":"b","a":"c"}`, `{"a":"b","a":[]}`, `{"a":[],"a":"b"}`, `{"a":[],"a":[]}`, `{"":"","":""}`, `{"a":"","b":"","a":""}`,
	} {
		mustNotRead(t, s)
	}
}

// literal is a quoted form of promise 6.1; a field's form is a key, a colon and one of the two kinds.
const literal = `"(?:[^"\\\x00-\x1f\x7f]|\\["\\]|\\u00(?:[01][0-9a-f]|7f))*"`

var (
	literalForm = regexp.MustCompile(literal)
	fieldForm   = regexp.MustCompile(`^(` + literal + `):(?:` + literal + `|(\[(?:` + literal + `(?:,` + literal + `)*)?\]))`)
)

// isObject tells by other means than the package's whether a string is an object that is to be read.
func isObject(s string) bool {
	if s == "{}" {
		return true
	}
	if !strings.HasPrefix(s, "{") {
		return false
	}
	seen := map[string]bool{}
	for rest := s[1:]; ; rest = rest[1:] {
		form := fieldForm.FindStringSubmatch(rest)
		if form == nil || seen[form[1]] || len(literalForm.FindAllString(form[2], -1)) > 256 {
			return false
		}
		seen[form[1]] = true
		rest = rest[len(form[0]):]
		if rest == "}" {
			return len(seen) <= 256
		}
		if !strings.HasPrefix(rest, ",") {
			return false
		}
	}
}

// escape is a byte's form between the quotes, in the words of promise 6.1.
func escape(b byte) string {
	switch {
	case b == '"' || b == '\\':
		return `\` + string(b)
	case b < 32 || b == 127:
		return fmt.Sprintf(`\u00%02x`, b)
	}
	return string([]byte{b})
}

func quoted(s string) string {
	out := `"`
	for _, b := range []byte(s) {
		out += escape(b)
	}
	return out + `"`
}

// encoded is the encoding of fields in the words of promise 7.1, without a look at whether they may be encoded.
func encoded(l []api.Field) string {
	out := "{"
	for i, f := range l {
		if i > 0 {
			out += ","
		}
		out += quoted(f.Key) + ":"
		if !f.Many {
			out += quoted(f.Text)
			continue
		}
		out += "["
		for j, s := range f.List {
			if j > 0 {
				out += ","
			}
			out += quoted(s)
		}
		out += "]"
	}
	return out + "}"
}

// agrees holds Read against isObject, what was read against the words, and Put against what was read.
func agrees(t *testing.T, s string) {
	t.Helper()
	if !isObject(s) {
		mustNotRead(t, s)
		return
	}
	l, err := object.Read(s)
	if err != api.OK || encoded(l) != s {
		t.Errorf("Read(%.60q) = %s, %d; want its fields, OK", s, show(l...), err)
	}
	for _, f := range l {
		if f.Many && f.Text != "" || !f.Many && len(f.List) != 0 {
			t.Errorf("Read(%.60q) answers the field %s", s, show(f))
		}
	}
	mustPut(t, l, s)
}

// Promise 7.1, Read: all that can be made of the marks and two strings, up to two fields.
func TestAllMarks(t *testing.T) {
	marks := []string{"}", "[", "]", ":", ",", `""`, `"a"`}
	var grow func(s string, left int)
	grow = func(s string, left int) {
		agrees(t, s)
		agrees(t, s+"}")
		if left == 0 {
			return
		}
		for _, m := range marks {
			grow(s+m, left-1)
		}
	}
	grow("", 3)
	grow("{", 5)
	for _, begin := range []string{`{"":`, `{"a":`, `{"":[],`, `{"a":["a"],`, `{"":"",`} {
		grow(begin, 5)
	}
}

// Promise 7.1, Read: objects in which one byte is cut out, put in or exchanged, or that end or begin at another place.
func TestChangedObjects(t *testing.T) {
	for _, s := range []string{
		`{}`,
		`{"a":"b"}`,
		`{"a":[]}`,
		`{"a":"b","c":["d"]}`,
		`{"a":["b","c"],"":"","d":[""]}`,
		`{"ab":"\u000a\"","aa":["\\","\u007f"]}`,
	} {
		for at := range len(s) + 1 {
			agrees(t, s[:at])
			agrees(t, s[at:])
			agrees(t, s[:at]+s)
			agrees(t, s+s[at:])
			for b := range 256 {
				one := string([]byte{byte(b)})
				agrees(t, s[:at]+one+s[at:])
				if at < len(s) {
					agrees(t, s[:at]+one+s[at+1:])
				}
			}
			if at < len(s) {
				agrees(t, s[:at]+s[at+1:])
			}
		}
	}
}

// Promise 7.1: each byte stands in a key, in a text and in a list, in its quoted form.
func TestEachByte(t *testing.T) {
	for i := range 256 {
		b := string([]byte{byte(i)})
		for _, l := range [][]api.Field{
			{text(b, b), list(b+b, b, b+b)},
			{list(b, "", b), text("", b+"a"+b)},
		} {
			mustPut(t, l, encoded(l))
			mustRead(t, encoded(l), l)
		}
	}
}

// Promise 7.1: lists of fields that are alike have objects of their own.
func TestObjectsDiffer(t *testing.T) {
	seen := map[string]int{}
	for i, l := range [][]api.Field{
		{},
		{{}},
		{{Many: true}},
		{list("", "")},
		{list("", "", "")},
		{text("a", "b")},
		{text("b", "a")},
		{list("a", "b")},
		{text("a", `b","c":"d`)},
		{text("a", "b"), text("c", "d")},
		{text("c", "d"), text("a", "b")},
		{list("a", "b", "c")},
		{list("a", "c", "b")},
		{list("a", `b","c`)},
		{list("a", "b"), list("c")},
		{list("a"), list("c", "b")},
		{text("a", `["b"]`)},
	} {
		s, err := object.Put(l)
		if k, there := seen[s]; there || err != api.OK {
			t.Errorf("lists %d and %d are both %q, error %d", k, i, s, err)
		}
		seen[s] = i
		mustRead(t, s, l)
	}
}

// Promise 7.1, Get: the first field with the key, whatever it holds, and the zero field if there is none.
func TestGet(t *testing.T) {
	both := api.Field{Key: "both", Text: "x", List: []string{"y"}}
	l := []api.Field{text("a", "b"), list("c", "d", "e"), text("a", "second"), list("c"), both, {}, {Many: true}, list("last", "z")}
	for _, c := range []struct {
		key  string
		want api.Field
	}{
		{"a", text("a", "b")},
		{"c", list("c", "d", "e")},
		{"both", both},
		{"", api.Field{}},
		{"last", list("last", "z")},
	} {
		if got, there := object.Get(l, c.key); !there || !sameField(got, c.want) {
			t.Errorf("Get of %q = %s, %t; want %s, true", c.key, show(got), there, show(c.want))
		}
	}
	for _, key := range []string{"b", "A", "aa", "d", "a ", `"a"`, "\x00", "lastz", "las"} {
		if got, there := object.Get(l, key); there || !sameField(got, api.Field{}) {
			t.Errorf("Get of %q = %s, %t; want none", key, show(got), there)
		}
	}
	for _, none := range [][]api.Field{nil, {}, l[:1], l[1:5]} {
		if got, there := object.Get(none, ""); there || !sameField(got, api.Field{}) {
			t.Errorf("Get of an empty key in %d fields = %s, %t; want none", len(none), show(got), there)
		}
	}
}

// Rule R4: fields that are handed in stay as they were, also beyond the lists' lengths, and a list that Get answers is no part of them.
func TestFieldsAreKept(t *testing.T) {
	elements := []string{"c", "b", "beyond"}
	whole := []api.Field{list("z", elements[:2]...), text("a", "x"), text("beyond", "y")}
	object.Put(whole[:2])
	object.Put(append(whole[:2:2], text("a", "again")))
	got, _ := object.Get(whole[:2], "z")
	if len(got.List) == 2 {
		got.List[0] = "changed"
		got.List = append(got.List, "changed")
	}
	want := []api.Field{list("z", "c", "b"), text("a", "x"), text("beyond", "y")}
	if !slices.EqualFunc(whole, want, sameField) || !slices.Equal(elements, []string{"c", "b", "beyond"}) {
		t.Errorf("the fields became %s with %q", show(whole...), elements)
	}
}

// Rules R4 and R5: an answer is its own, and a call hangs on its arguments alone.
func TestCallsAreAlone(t *testing.T) {
	s := `{"a":["b","c"],"d":["e"],"f":"g"}`
	first, _ := object.Read(s)
	if len(first) != 3 || len(first[0].List) != 2 || len(first[1].List) != 1 {
		t.Fatalf("Read = %s", show(first...))
	}
	first[0].List = append(first[0].List, "changed")
	first[0].List[0] = "changed"
	first[2] = text("changed", "")
	if !slices.Equal(first[1].List, []string{"e"}) {
		t.Errorf("lists of one answer share memory: %q", first[1].List)
	}
	object.Read(`{"a":"x"}`)
	object.Read(`{"a":"x","a"`)
	mustPut(t, []api.Field{text("a", "x")}, `{"a":"x"}`)
	mustRead(t, s, []api.Field{list("a", "b", "c"), list("d", "e"), text("f", "g")})
}

// Promise 7.1 and rule R1: whatever bytes there are, reading them ends and answers what the words ask for; fields made of them are read back.
func FuzzAgainstTheWords(f *testing.F) {
	for _, s := range []string{"", "{}", `{"a":"b","c":["d"]}`, `{"a":["b",]}`, `{"a":"","a":""}`, `{"a":[`, "{\"\xff\":[\"\\u0000\"]}", `{"a":"b"}}`} {
		f.Add(s, "a", "b", 2)
	}
	f.Fuzz(func(t *testing.T, s, a, b string, count int) {
		agrees(t, s)
		l := []api.Field{text(a, s), list(b, slices.Repeat([]string{s}, count&511)...)}
		put, err := object.Put(l)
		switch {
		case a == b:
			mustNotPut(t, l...)
		case err != api.OK || put != encoded(l):
			t.Errorf("Put(%s) = %.60q, %d; want %.60q, OK", show(l...), put, err, encoded(l))
		default:
			agrees(t, put)
		}
	})
}
