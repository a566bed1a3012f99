package route_test

import (
	"math/rand"
	"slices"
	"strings"
	"testing"

	"escheat/api"
	"escheat/route"
)

// isName says of a text what the words of layer 3 say, by the library.
func isName(s string) bool {
	return len(s) >= 1 && len(s) <= 24 && !strings.ContainsAny(s, "\x00/") && s != "." && s != ".."
}

// split is made by the words of the chapter, by the library.
func split(s string) ([]string, api.Errno) {
	if s == "" || len(s) > 200 || s[0] != '/' {
		return nil, api.ErrPath
	}
	if s == "/" {
		return nil, api.OK
	}
	parts := strings.Split(s, "/")[1:]
	if strings.Contains(s, "//") || strings.HasSuffix(s, "/") {
		return nil, api.ErrPath
	}
	for _, part := range parts {
		if !isName(part) {
			return nil, api.ErrName
		}
	}
	return parts, api.OK
}

// join is made by the words of the chapter: all names are looked at ahead of how long the path is.
func join(parts []string) (string, api.Errno) {
	s := ""
	for _, part := range parts {
		if !isName(part) {
			return "", api.ErrName
		}
	}
	for _, part := range parts {
		s += "/" + part
	}
	if len(s) > 200 {
		return "", api.ErrPath
	}
	if s == "" {
		return "/", api.OK
	}
	return s, api.OK
}

// within is made by the words of the chapter: name by name.
func within(a, b []string) bool {
	for k := range a {
		if k >= len(b) || a[k] != b[k] {
			return false
		}
	}
	return true
}

// pieces are names, and texts that are none, at the edges of what a name is.
func pieces() []string {
	x := strings.Repeat("x", 30)
	return []string{
		"a", "b", "ab", "...", ".a", "a.", "..a", "a..", " ", "\\", "\x01", "\n", "0", "A", "\x7f", x[:2], x[:23], x[:24],
		// Bytes of many runes, and of none: the last byte of some of these runes is 47, or would be so if it were cut.
		"\u00e9", "\u012f", "\u2f2f", "\uff0f", "\u2215", "\u2044", "\U0001f62f", "\u262f", "\ufffd", "\xff", "\x80", "\xc0\xaf", "\xe0\x80\xaf", "\xaf", "\xef", "\xc2", "\xe2", "\xe2\x88", "\xf0\x9f\x98", "\xed\xa0\x80",
		strings.Repeat("\u00e9", 12), strings.Repeat("\u2215", 8), strings.Repeat("\U0001f62f", 6), strings.Repeat("\xff", 24), x[:23] + "\xe2", x[:22] + "\u00e9",
		"", ".", "..", "\x00", "a\x00", "\x00a", "a\x00b", "a/b", "/", "/a", "a/", x[:25], x[:26], x, strings.Repeat("\u00e9", 13), strings.Repeat("\u2215", 9), x[:24] + "\xff", x[:23] + "\u00e9", x[:23] + "\x00",
	}
}

func names() []string {
	return slices.DeleteFunc(pieces(), func(s string) bool { return !isName(s) })
}

// long tells a text of n bytes, at least 2, that is a stroke and a name, again and again.
func long(n int) string {
	unit := "/" + strings.Repeat("n", 23)
	s := strings.Repeat(unit, n/24+1)[:n]
	if strings.HasSuffix(s, "/") {
		// A stroke alone has no name behind it: the name ahead of it takes its place.
		s = s[:n-1] + "n"
	}
	return s
}

// rows are lists of pieces, of none, one, two and three, and of some by chance that is always the same.
func rows() [][]string {
	l := [][]string{nil, {}}
	for _, a := range pieces() {
		l = append(l, []string{a})
		for _, b := range pieces() {
			l = append(l, []string{a, b}, []string{a, b, "c"}, []string{"c", a, b}, []string{a, "c", b})
		}
	}
	r := rand.New(rand.NewSource(26))
	for range 3000 {
		from := names()
		if r.Intn(4) == 0 {
			from = pieces()
		}
		row := make([]string, r.Intn(16))
		for k := range row {
			row[k] = from[r.Intn(len(from))]
		}
		l = append(l, row)
	}
	return l
}

// paths are texts that may be paths and texts that may not, at the edges.
func paths() []string {
	l := []string{"", "/", "//", "///", "a", "a/", "a/b", " /a", "\x00/a", "\\a", "./a", "../a", "\xff/a", "\uff0fa", "\u2215a", "\xc0\xafa", "\u012fa"}
	for _, row := range rows() {
		s := strings.Join(row, "/")
		l = append(l, s, "/"+s, "//"+s, "/"+s+"/")
	}
	for n := 2; n < 420; n++ {
		l = append(l, long(n), long(n)+"/", "/"+long(n), strings.Repeat("/", n), strings.Repeat("/a", n), strings.Repeat("/a", n)+"b", strings.Repeat("/\u00e9", n), strings.Repeat("/..", n), strings.Repeat("a", n), "/"+strings.Repeat("a", n))
	}
	return l
}

// up is made by the words of the chapter.
func up(s string) ([]string, string, api.Errno) {
	parts, err := split(s)
	if err != api.OK {
		return nil, "", err
	}
	if s == "/" {
		return nil, "", api.ErrPath
	}
	return parts[:len(parts)-1], parts[len(parts)-1], api.OK
}

// check holds the calls of one text against the words of the chapter.
func check(t *testing.T, s string) {
	t.Helper()
	got, err := route.Split(s)
	if want, wantErr := split(s); !slices.Equal(got, want) || err != wantErr {
		t.Fatalf("Split of %q: %q %d, want %q %d", s, got, err, want, wantErr)
	}
	got, last, err := route.Up(s)
	if want, wantLast, wantErr := up(s); !slices.Equal(got, want) || last != wantLast || err != wantErr {
		t.Fatalf("Up of %q: %q %q %d, want %q %q %d", s, got, last, err, want, wantLast, wantErr)
	}
}

// Promise 26.1, and the chapter's examples.
func TestSplitByHand(t *testing.T) {
	x := strings.Repeat("x", 24)
	for _, c := range []struct {
		s    string
		want []string
		err  api.Errno
	}{
		{"/a/bc", []string{"a", "bc"}, api.OK}, {"/a/", nil, api.ErrPath}, {"/..", nil, api.ErrName},
		{"/", nil, api.OK}, {"", nil, api.ErrPath}, {"//", nil, api.ErrPath}, {"a", nil, api.ErrPath}, {"a/b", nil, api.ErrPath}, {"//a", nil, api.ErrPath}, {"/a//b", nil, api.ErrPath}, {"/a//", nil, api.ErrPath},
		{".", nil, api.ErrPath}, {"..", nil, api.ErrPath}, {"/.", nil, api.ErrName}, {"/...", []string{"..."}, api.OK}, {"/a/./b", nil, api.ErrName}, {"/a/../b", nil, api.ErrName}, {"/../b", nil, api.ErrName}, {"/b/..", nil, api.ErrName},
		{"/a\x00", nil, api.ErrName}, {"/\x00/a", nil, api.ErrName}, {"\x00", nil, api.ErrPath}, {"/ ", []string{" "}, api.OK}, {"/a\\b", []string{"a\\b"}, api.OK}, {"/a b/c\n", []string{"a b", "c\n"}, api.OK},
		{"/" + x, []string{x}, api.OK}, {"/" + x + "x", nil, api.ErrName}, {"/a/" + x, []string{"a", x}, api.OK}, {"/a/" + x + "x", nil, api.ErrName}, {"/" + x + "x/a", nil, api.ErrName},
	} {
		if got, err := route.Split(c.s); !slices.Equal(got, c.want) || err != c.err {
			t.Errorf("Split of %q: %q %d, want %q %d", c.s, got, err, c.want, c.err)
		}
	}
}

// Promise 26.1: where both errors apply, ErrPath is told, wherever in the path what is wrong stands.
func TestSplitErrPathIsFirst(t *testing.T) {
	for _, bad := range []string{".", "..", "\x00", "a\x00b", strings.Repeat("x", 25)} {
		for _, s := range []string{
			bad, bad + "/a", "//" + bad, "/" + bad + "/", "/" + bad + "//", "/a//" + bad, "/" + bad + "//a", "/" + bad + "/a/", "/a/" + bad + "/", "//a/" + bad, "/" + bad + long(200), long(200) + "/" + bad, strings.Repeat("/"+bad, 101),
		} {
			if got, err := route.Split(s); len(got) != 0 || err != api.ErrPath {
				t.Errorf("Split of %q: %q %d, want ErrPath", s, got, err)
			}
			if got, last, err := route.Up(s); len(got) != 0 || last != "" || err != api.ErrPath {
				t.Errorf("Up of %q: %q %q %d, want ErrPath", s, got, last, err)
			}
		}
	}
}

// Promise 26.1: from 1 to 200 bytes, which are counted, not the runes.
func TestSplitLengths(t *testing.T) {
	for _, c := range []struct {
		s    string
		many int
		err  api.Errno
	}{
		{long(199), 9, api.OK}, {long(200), 9, api.OK}, {long(201), 0, api.ErrPath}, {long(202), 0, api.ErrPath}, {long(456), 0, api.ErrPath},
		{strings.Repeat("/a", 100), 100, api.OK}, {strings.Repeat("/a", 99) + "/aa", 0, api.ErrPath}, {strings.Repeat("/a", 101), 0, api.ErrPath}, {strings.Repeat("/a", 200), 0, api.ErrPath},
		{strings.Repeat("/\u00e9", 66), 66, api.OK}, {strings.Repeat("/\u00e9", 66) + "/a", 67, api.OK}, {strings.Repeat("/\u00e9", 67), 0, api.ErrPath}, {strings.Repeat("/\u00e9", 100), 0, api.ErrPath},
		{strings.Repeat("/"+strings.Repeat("\xff", 24), 8), 8, api.OK}, {strings.Repeat("/"+strings.Repeat("\xff", 24), 8) + "/", 0, api.ErrPath},
		{"/" + strings.Repeat("a", 199), 0, api.ErrName}, {"/" + strings.Repeat("a", 200), 0, api.ErrPath},
	} {
		got, err := route.Split(c.s)
		if len(got) != c.many || err != c.err {
			t.Errorf("Split of %d bytes, %q: %q %d, want %d and %d", len(c.s), c.s, got, err, c.many, c.err)
		}
	}
}

// Promise 26.1: runes beside a stroke, and bytes that are none, are as they were; none of them is a stroke, or takes one in.
func TestSplitRunes(t *testing.T) {
	for _, c := range []struct {
		s    string
		want []string
	}{
		{"/\u012f/\u2f2f", []string{"\u012f", "\u2f2f"}}, {"/\uff0f\u2215\u2044/a", []string{"\uff0f\u2215\u2044", "a"}}, {"/\xc0\xaf/b", []string{"\xc0\xaf", "b"}}, {"/a\xaf/b", []string{"a\xaf", "b"}},
		{"/\xe2/a", []string{"\xe2", "a"}}, {"/\xe2\x88/\x95", []string{"\xe2\x88", "\x95"}}, {"/\xf0\x9f\x98/\xaf", []string{"\xf0\x9f\x98", "\xaf"}}, {"/\xff/\xfe/\x80", []string{"\xff", "\xfe", "\x80"}}, {"/\ufffd/\xef\xbf", []string{"\ufffd", "\xef\xbf"}},
		{"/\U0001f62f\U0001f62f/\u00e9", []string{"\U0001f62f\U0001f62f", "\u00e9"}},
	} {
		if got, err := route.Split(c.s); !slices.Equal(got, c.want) || err != api.OK {
			t.Errorf("Split of %q: %q %d, want %q", c.s, got, err, c.want)
		}
	}
}

// Promises 26.1 and 26.2, against the words of the chapter: many texts.
func TestSplitAndUp(t *testing.T) {
	for _, s := range paths() {
		check(t, s)
	}
}

// Promises 26.1 and 26.2: all short texts of some bytes, and each byte at each place of a path.
func TestSplitAndUpByBytes(t *testing.T) {
	bytes := []byte{'/', '.', 'a', 0, 0xe2, 0xaf}
	l := []string{""}
	for range 6 {
		var next []string
		for _, s := range l {
			check(t, s)
			check(t, "/"+s)
			for _, b := range bytes {
				next = append(next, s+string([]byte{b}))
			}
		}
		l = next
	}
	for _, s := range []string{"/", "/a", "/a/b", "/../c", "/ab/\u00e9/...", long(200), long(201)} {
		for at := range len(s) {
			for b := range 256 {
				check(t, s[:at]+string([]byte{byte(b)})+s[at+1:])
				check(t, s[:at]+string([]byte{byte(b)})+s[at:])
			}
		}
	}
}

// Promise 26.2: the last name, and those ahead of it.
func TestUpByHand(t *testing.T) {
	for _, c := range []struct {
		s    string
		want []string
		last string
		err  api.Errno
	}{
		{"/a", nil, "a", api.OK}, {"/a/bc", []string{"a"}, "bc", api.OK}, {"/a/b/c", []string{"a", "b"}, "c", api.OK}, {"/a/a", []string{"a"}, "a", api.OK},
		{"/", nil, "", api.ErrPath}, {"", nil, "", api.ErrPath}, {"//", nil, "", api.ErrPath}, {"/a/", nil, "", api.ErrPath}, {"a", nil, "", api.ErrPath}, {"/..", nil, "", api.ErrName}, {"/a/..", nil, "", api.ErrName}, {"/../a", nil, "", api.ErrName},
	} {
		if got, last, err := route.Up(c.s); !slices.Equal(got, c.want) || last != c.last || err != c.err {
			t.Errorf("Up of %q: %q %q %d, want %q %q %d", c.s, got, last, err, c.want, c.last, c.err)
		}
	}
}

// Promise 26.2: names as a path; of names that are none, and of too many, the empty text.
func TestJoinByHand(t *testing.T) {
	x := strings.Repeat("x", 24)
	eight := slices.Repeat([]string{x}, 8)
	for _, c := range []struct {
		parts []string
		want  string
		err   api.Errno
	}{
		{nil, "/", api.OK}, {[]string{}, "/", api.OK}, {[]string{"a"}, "/a", api.OK}, {[]string{"a", "bc"}, "/a/bc", api.OK}, {[]string{"a", "a", "a"}, "/a/a/a", api.OK}, {[]string{"\xe2", "\x88"}, "/\xe2/\x88", api.OK},
		{[]string{""}, "", api.ErrName}, {[]string{"", ""}, "", api.ErrName}, {[]string{"a", ""}, "", api.ErrName}, {[]string{"", "a"}, "", api.ErrName}, {[]string{"."}, "", api.ErrName}, {[]string{"a", ".."}, "", api.ErrName},
		{[]string{"/"}, "", api.ErrName}, {[]string{"/a"}, "", api.ErrName}, {[]string{"a/b"}, "", api.ErrName}, {[]string{"a/"}, "", api.ErrName}, {[]string{"a\x00"}, "", api.ErrName}, {[]string{x}, "/" + x, api.OK}, {[]string{x + "x"}, "", api.ErrName},
		{eight, strings.Repeat("/"+x, 8), api.OK}, {append(slices.Clone(eight), "a"), "", api.ErrPath}, {append(slices.Clone(eight), ""), "", api.ErrName}, {append(slices.Clone(eight[:7]), x[:23], "a"), "", api.ErrPath}, {append(slices.Clone(eight[:7]), x[:22], "a"), strings.Repeat("/"+x, 7) + "/" + x[:22] + "/a", api.OK},
		{slices.Repeat([]string{"a"}, 100), strings.Repeat("/a", 100), api.OK}, {slices.Repeat([]string{"a"}, 101), "", api.ErrPath}, {append(slices.Repeat([]string{"a"}, 99), "aa"), "", api.ErrPath},
	} {
		if got, err := route.Join(c.parts); got != c.want || err != c.err {
			t.Errorf("Join of %q: %q %d, want %q %d", c.parts, got, err, c.want, c.err)
		}
	}
}

// Promise 26.2: where both errors apply, ErrName is told here, wherever what is no name stands.
func TestJoinErrNameIsFirst(t *testing.T) {
	for _, bad := range []string{"", ".", "..", "\x00", "a/b", strings.Repeat("x", 25), strings.Repeat("x", 300)} {
		for _, at := range []int{0, 1, 99, 100, 101, 149} {
			l := slices.Repeat([]string{"a"}, 150)
			l[at] = bad
			if got, err := route.Join(l); got != "" || err != api.ErrName {
				t.Errorf("Join of 150 names, with %q at %d: %q %d, want ErrName", bad, at, got, err)
			}
		}
	}
}

// Promises 26.2 and 26.4, against the words of the chapter; what may be joined is parted as it was.
func TestJoin(t *testing.T) {
	for _, row := range rows() {
		got, err := route.Join(row)
		if want, wantErr := join(row); got != want || err != wantErr {
			t.Fatalf("Join of %q: %q %d, want %q %d", row, got, err, want, wantErr)
		}
		if err != api.OK {
			continue
		}
		if parts, err := route.Split(got); !slices.Equal(parts, row) || err != api.OK {
			t.Fatalf("%q joined and parted: %q %d", row, parts, err)
		}
	}
}

// Promise 26.4: what may be parted is joined as it was, by Up's parts too.
func TestPartedIsJoined(t *testing.T) {
	many := 0
	for _, s := range paths() {
		parts, err := route.Split(s)
		if err != api.OK {
			continue
		}
		many++
		if again, err := route.Join(parts); again != s || err != api.OK {
			t.Fatalf("%q parted and joined: %q %d", s, again, err)
		}
		ahead, last, err := route.Up(s)
		if s == "/" {
			continue
		}
		if again, errAgain := route.Join(append(ahead, last)); again != s || err != api.OK || errAgain != api.OK {
			t.Fatalf("%q without its last name, and with it: %q %d %d", s, again, err, errAgain)
		}
	}
	if many < 1000 {
		t.Errorf("just %d of the texts are paths", many)
	}
}

// Promise 26.3: the same, or a beginning, name by name; texts that are no names are told apart as well.
func TestWithinByHand(t *testing.T) {
	a, ab := []string{"a"}, []string{"a", "b"}
	for _, c := range []struct {
		a, b []string
		want bool
	}{
		{nil, nil, true}, {[]string{}, nil, true}, {nil, []string{}, true}, {nil, a, true}, {a, nil, false}, {a, a, true}, {a, ab, true}, {ab, a, false}, {ab, ab, true}, {ab, []string{"a", "b", "c"}, true}, {[]string{"a", "b", "c"}, ab, false},
		{a, []string{"ab"}, false}, {[]string{"ab"}, a, false}, {[]string{"ab"}, ab, false}, {ab, []string{"ab"}, false}, {ab, []string{"a/b"}, false}, {[]string{"a/b"}, ab, false}, {ab, []string{"a", "bc"}, false}, {ab, []string{"b", "a"}, false}, {[]string{"b"}, ab, false}, {[]string{"a", "c"}, []string{"a", "b", "c"}, false},
		{[]string{""}, nil, false}, {nil, []string{""}, true}, {[]string{""}, a, false}, {[]string{""}, []string{"", "a"}, true}, {[]string{".."}, []string{"..", "a"}, true}, {[]string{"A"}, ab, false}, {[]string{"\xff"}, []string{"\xfe"}, false}, {[]string{"\u00e9"}, []string{"e\u0301"}, false},
	} {
		if got := route.Within(c.a, c.b); got != c.want {
			t.Errorf("Within of %q and %q: %v, want %v", c.a, c.b, got, c.want)
		}
	}
}

// Promises 26.3 and 26.4: all short rows of three texts, against the words; within one that is within another one is within that.
func TestWithin(t *testing.T) {
	l := [][]string{nil}
	for from := 0; len(l) < 40; from++ {
		for _, s := range []string{"a", "aa", ""} {
			l = append(l, append(slices.Clone(l[from]), s))
		}
	}
	for _, a := range l {
		for _, b := range l {
			got := route.Within(a, b)
			if want := within(a, b); got != want {
				t.Fatalf("Within of %q and %q: %v, want %v", a, b, got, want)
			}
			if !got {
				continue
			}
			if route.Within(b, a) != slices.Equal(a, b) {
				t.Fatalf("%q and %q are within each other, and not the same", a, b)
			}
			for _, c := range l {
				if route.Within(b, c) && !route.Within(a, c) {
					t.Fatalf("%q is within %q, and that within %q, but the first not within the last", a, b, c)
				}
			}
		}
	}
}

// Promise 26.3: of rows by chance, beginnings of theirs, and such as differ in one name.
func TestWithinOfBeginnings(t *testing.T) {
	for _, row := range rows() {
		for n := range len(row) + 1 {
			if !route.Within(row[:n], row) {
				t.Fatalf("the first %d of %q are not within it", n, row)
			}
			if n < len(row) && route.Within(row, row[:n]) {
				t.Fatalf("%q is within its first %d", row, n)
			}
		}
		for n := range row {
			other := slices.Clone(row)
			other[n] += "x"
			if route.Within(other, row) || route.Within(row, other) {
				t.Fatalf("%q and %q, which differ at %d, are within each other", row, other, n)
			}
		}
	}
}

// R4: what is told is new memory, beyond its length too, and nothing handed in is changed.
func TestAnswersAreNew(t *testing.T) {
	for _, s := range []string{"/a/b/c", "/a", long(200), strings.Repeat("/a", 100)} {
		parts, _ := route.Split(s)
		ahead, _, _ := route.Up(s)
		kept, keptAhead := slices.Clone(parts), slices.Clone(ahead)
		for _, told := range [][]string{parts, ahead} {
			for k := range told[:cap(told)] {
				told[:cap(told)][k] = "other"
			}
		}
		again, err := route.Split(s)
		if !slices.Equal(again, kept) || err != api.OK {
			t.Errorf("Split of %q is shared: %q", s, again)
		}
		if again, last, err := route.Up(s); !slices.Equal(again, keptAhead) || last != kept[len(kept)-1] || err != api.OK {
			t.Errorf("Up of %q is shared: %q %q", s, again, last)
		}
	}
	for _, row := range rows() {
		kept := slices.Clone(row)
		route.Join(row)
		route.Join(row[:len(row)/2])
		route.Within(row, row[:len(row)/2])
		route.Within(row[:len(row)/2], row)
		if !slices.Equal(row, kept) {
			t.Fatalf("what was handed in is changed: %q, was %q", row, kept)
		}
	}
}

// Promise P1: every call ends and none panics, at all arguments.
func TestAnyArguments(t *testing.T) {
	deep := strings.Repeat("/a", 1<<20)
	for _, s := range []string{deep, deep + "/", deep[1:], strings.Repeat("/", 1<<20), strings.Repeat("\xff", 1<<20), strings.Repeat("\x00", 300), "/" + strings.Repeat("\u00e9", 1<<20)} {
		check(t, s)
	}
	many := slices.Repeat([]string{"a"}, 1<<20)
	if s, err := route.Join(many); s != "" || err != api.ErrPath {
		t.Errorf("Join of many: %q %d", s, err)
	}
	if s, err := route.Join(append(many, deep)); s != "" || err != api.ErrName {
		t.Errorf("Join of many, the last of which is long: %q %d", s, err)
	}
	if !route.Within(many[1:], many) || route.Within(many, many[1:]) || route.Within([]string{deep}, many) || !route.Within([]string{deep}, []string{deep, ""}) {
		t.Error("Within of many")
	}
	r := rand.New(rand.NewSource(1))
	for range 20000 {
		b := make([]byte, r.Intn(30))
		for k := range b {
			b[k] = byte(r.Intn(256))
			if r.Intn(3) == 0 {
				b[k] = '/'
			}
		}
		check(t, string(b))
		check(t, "/"+string(b))
	}
}
