package name_test

import (
	"bytes"
	"math/rand"
	"slices"
	"strconv"
	"strings"
	"testing"

	"escheat/api"
	"escheat/name"
)

// names may all be: of one byte, of twenty-four, with full stops, blanks, bytes past ASCII, and such as are no UTF-8.
func names() []string {
	l := []string{"a", "b", "ab", "ba", "aa", "A", "Z", "~", " ", "\\", "a.", ".a", "...", "....", "..a", "a..", ". ", " .", ".\x01", "-", "0", "\x01", "\x7f", "\x80", "\xff", "\xff\xfe", "\xc3", "\xa9", "\u00e9", "\u65e5\u672c", "\U0001f600", "\u2215", "a b", "\n", "\t"}
	for _, s := range []string{"x", "\xff", "\x01", "."} {
		l = append(l, strings.Repeat(s, 23), strings.Repeat(s, 24), strings.Repeat(s, 20)+"name")
	}
	for k := range 40 {
		l = append(l, "file"+strconv.Itoa(k))
	}
	return append(l, strings.Repeat("\u00e9", 12), "abcdefghijklmnopqrstuvwx", "abcdefghijklmnopqrstuvw")
}

// others are texts that are no names.
func others() []string {
	l := []string{"", ".", "..", "/", "//", "/a", "a/", "a/b", "./", "/.", "../", "\x00", "\x00\x00", "a\x00", "\x00a", "a\x00b", "\xff/", "/\xff", "\xff\x00", "\x00/"}
	for _, s := range []string{"x", "\xff", "\x01", ".", "\x00", "/"} {
		l = append(l, strings.Repeat(s, 25), strings.Repeat(s, 26), strings.Repeat(s, 255), strings.Repeat(s, 256), strings.Repeat(s, 257), strings.Repeat(s, 258), strings.Repeat(s, 1000))
	}
	return append(l, strings.Repeat("\u00e9", 13), strings.Repeat("\u00e9", 24), "abcdefghijklmnopqrstuvwxy", strings.Repeat("x", 23)+"/", strings.Repeat("x", 23)+"\x00", strings.Repeat("x", 24)+"\x00", strings.Repeat("x", 24)+"/")
}

func texts() []string {
	return append(names(), others()...)
}

// mayBe says of a text what the chapter's words say, by the library.
func mayBe(s string) bool {
	return len(s) >= 1 && len(s) <= 24 && strings.Count(s, "\x00") == 0 && strings.Count(s, "/") == 0 && s != "." && s != ".."
}

// compare goes byte by byte, as numbers.
func compare(a, b string) int {
	for k := 0; k < len(a) && k < len(b); k++ {
		if a[k] != b[k] {
			return int(a[k]) - int(b[k])
		}
	}
	return len(a) - len(b)
}

// packed writes a name's bytes by hand.
func packed(s string) [25]byte {
	return [25]byte(slices.Concat([]byte{byte(len(s))}, []byte(s), make([]byte, 24-len(s))))
}

// unique tells texts that rise, by putting in one by one what is not there.
func unique(l []string) []string {
	var rising []string
	for _, s := range l {
		at := 0
		for at < len(rising) && compare(rising[at], s) < 0 {
			at++
		}
		if at == len(rising) || rising[at] != s {
			rising = slices.Insert(rising, at, s)
		}
	}
	return rising
}

// countLess tells how many of the texts are less than s, by asking each.
func countLess(l []string, s string) int {
	n := 0
	for _, e := range l {
		if compare(e, s) < 0 {
			n++
		}
	}
	return n
}

// mixed tells the texts in an order that is always the same, and is none of theirs.
func mixed(l []string, seed int64) []string {
	l = slices.Clone(l)
	rand.New(rand.NewSource(seed)).Shuffle(len(l), func(i, j int) { l[i], l[j] = l[j], l[i] })
	return l
}

func checkIs(t *testing.T, s string) {
	t.Helper()
	want := api.ErrName
	if mayBe(s) {
		want = api.OK
	}
	if got := name.Check(s); got != want {
		t.Errorf("Check of %q: %d, want %d", s, got, want)
	}
}

// Promise 3.1: which texts are names.
func TestCheck(t *testing.T) {
	for _, s := range names() {
		if got := name.Check(s); got != api.OK {
			t.Errorf("Check of %q: %d, want OK", s, got)
		}
	}
	for _, s := range others() {
		if got := name.Check(s); got != api.ErrName {
			t.Errorf("Check of %q: %d, want ErrName", s, got)
		}
	}
}

// Promise 3.1: each byte, alone, beside others, and at each place of a name; each length.
func TestCheckByBytes(t *testing.T) {
	for b := range 256 {
		c := string([]byte{byte(b)})
		for _, s := range []string{c, c + c, "." + c, c + ".", ".." + c, c + "..", "a" + c, c + "a"} {
			checkIs(t, s)
		}
		for at := range 24 {
			checkIs(t, strings.Repeat("n", at)+c+strings.Repeat("m", 23-at))
		}
	}
	for length := range 600 {
		for _, s := range []string{"n", "\xff", "."} {
			checkIs(t, strings.Repeat(s, length))
		}
	}
}

// Promise 3.1 and the chapter's example 2.
func TestCheckByHand(t *testing.T) {
	for s, want := range map[string]api.Errno{
		"..": api.ErrName, ".": api.ErrName, "...": api.OK, "": api.ErrName, "a": api.OK, "a/b": api.ErrName, "a\x00": api.ErrName, "0": api.OK, "\x01": api.OK, "\\": api.OK,
		"123456789012345678901234": api.OK, "1234567890123456789012345": api.ErrName,
	} {
		if got := name.Check(s); got != want {
			t.Errorf("Check of %q: %d, want %d", s, got, want)
		}
	}
}

// Promise 3.1: of any two texts, names or not, against an order that goes byte by byte.
func TestLess(t *testing.T) {
	for _, a := range texts() {
		for _, b := range texts() {
			if got, want := name.Less(a, b), compare(a, b) < 0; got != want {
				t.Errorf("Less of %q and %q: %v, want %v", a, b, got, want)
			}
		}
	}
}

// Promise 3.1: a beginning is less; bytes count as numbers without a sign, and nothing else than bytes counts.
func TestLessByHand(t *testing.T) {
	for _, l := range [][]string{
		{"", "a"}, {"a", "ab"}, {"a", "a\x00"}, {"a\x00", "a\x01"}, {"ab", "b"}, {"aaaa", "ab"}, {"B", "a"}, {"Z", "a"}, {"10", "9"}, {"a", "\x80"}, {"\x7f", "\x80"}, {"\x80", "\xff"}, {"z", "\u00e9"}, {"\uffff", "\U00010000"}, {".", "/"}, {"..", "./"}, {"", "\x00"},
	} {
		if !name.Less(l[0], l[1]) || name.Less(l[1], l[0]) || name.Less(l[0], l[0]) || name.Less(l[1], l[1]) {
			t.Errorf("%q is to be less than %q", l[0], l[1])
		}
	}
}

// Promise 3.2: texts of all kinds, in all orders, some more than once.
func TestSort(t *testing.T) {
	for seed := range int64(20) {
		l := mixed(append(texts(), texts()[seed:]...), seed)
		kept := slices.Clone(l)
		if got, want := name.Sort(l), unique(l); !slices.Equal(got, want) {
			t.Fatalf("Sort of %q: %q, want %q", l, got, want)
		}
		if !slices.Equal(l, kept) {
			t.Fatal("Sort changed what was handed in")
		}
	}
}

// Promise 3.2 and R3: by hand.
func TestSortByHand(t *testing.T) {
	for _, c := range []struct{ l, want []string }{
		{nil, nil}, {[]string{}, nil}, {[]string{""}, []string{""}}, {[]string{"a"}, []string{"a"}},
		{[]string{"a", "a", "a"}, []string{"a"}},
		{[]string{"b", "a"}, []string{"a", "b"}},
		{[]string{"a", "b"}, []string{"a", "b"}},
		{[]string{"b", "a", "b"}, []string{"a", "b"}},
		{[]string{"b", "", "ab", "a", "", "B", "\xff", "a/", "a\x00"}, []string{"", "B", "a", "a\x00", "a/", "ab", "b", "\xff"}},
	} {
		if got := name.Sort(c.l); !slices.Equal(got, c.want) {
			t.Errorf("Sort of %q: %q, want %q", c.l, got, c.want)
		}
	}
}

// Promise 3.2 and R4: what Sort tells is new, and shares nothing, beyond its length too.
func TestSortIsNew(t *testing.T) {
	room := []string{"a", "b", "b", "c", "d", "d", "e"}
	kept := slices.Clone(room)
	for length := range len(room) + 1 {
		l := room[:length]
		one, two := name.Sort(l), name.Sort(l)
		want := slices.Clone(two)
		for k := range one[:cap(one)] {
			one[:cap(one)][k] = "other"
		}
		if !slices.Equal(room, kept) {
			t.Fatalf("of %d: what was handed in is shared: %q", length, room)
		}
		if !slices.Equal(two, want) {
			t.Errorf("of %d: two answers share: %q", length, two)
		}
	}
}

// Promise 3.2: where each text stands, or were to stand, in rows of all lengths that rise.
func TestPlace(t *testing.T) {
	all := unique(texts())
	for step := 1; step <= len(all); step++ {
		var l []string
		for k := step / 2; k < len(all); k += step {
			l = append(l, all[k])
		}
		for _, s := range all {
			less, there := countLess(l, s), slices.Contains(l, s)
			if at, ok := name.Place(l, s); at != less || ok != there {
				t.Errorf("Place of %q in %q: %d %v, want %d %v", s, l, at, ok, less, there)
			}
		}
	}
}

// Promise 3.2 and R3: by hand.
func TestPlaceByHand(t *testing.T) {
	l := []string{"a", "c", "e"}
	for _, c := range []struct {
		l    []string
		s    string
		want int
		ok   bool
	}{
		{nil, "a", 0, false}, {[]string{}, "", 0, false}, {[]string{""}, "", 0, true}, {[]string{""}, "a", 1, false},
		{l, "", 0, false}, {l, "a", 0, true}, {l, "b", 1, false}, {l, "c", 1, true}, {l, "d", 2, false}, {l, "e", 2, true}, {l, "f", 3, false}, {l, "a\x00", 1, false}, {l, "\xff", 3, false},
	} {
		if at, ok := name.Place(c.l, c.s); at != c.want || ok != c.ok {
			t.Errorf("Place of %q in %q: %d %v, want %d %v", c.s, c.l, at, ok, c.want, c.ok)
		}
	}
	if !slices.Equal(l, []string{"a", "c", "e"}) {
		t.Error("Place changed what was handed in:", l)
	}
}

// Promise 3.2: of texts that don't rise it ends, with a number from 0 to how many there are.
func TestPlaceOfOthers(t *testing.T) {
	for seed := range int64(30) {
		l := mixed(append(texts(), "a", "a", "b"), seed)[:seed*3]
		kept := slices.Clone(l)
		for _, s := range texts() {
			if at, _ := name.Place(l, s); at < 0 || at > len(l) {
				t.Errorf("Place of %q in %q: %d", s, l, at)
			}
		}
		if !slices.Equal(l, kept) {
			t.Error("Place changed what was handed in")
		}
	}
	for _, l := range [][]string{{"a", "a"}, {"b", "a"}, {"c", "b", "a"}, {"", "", ""}} {
		for _, s := range []string{"", "a", "b", "c", "d"} {
			if at, _ := name.Place(l, s); at < 0 || at > len(l) {
				t.Errorf("Place of %q in %q: %d", s, l, at)
			}
		}
	}
}

// Promise 3.3: names as bytes, and noughts with an error for all else.
func TestPack(t *testing.T) {
	for _, s := range names() {
		if b, err := name.Pack(s); b != packed(s) || err != api.OK {
			t.Errorf("Pack of %q: %v %d", s, b, err)
		}
	}
	for _, s := range others() {
		if b, err := name.Pack(s); b != [25]byte{} || err != api.ErrName {
			t.Errorf("Pack of %q: %v %d, want noughts and ErrName", s, b, err)
		}
	}
}

// Promise 3.3 and the chapter's example 1.
func TestPackByHand(t *testing.T) {
	if b, err := name.Pack("ab"); b != [25]byte{2, 97, 98} || err != api.OK {
		t.Error("example 1:", b, err)
	}
	full := [25]byte{24}
	copy(full[1:], "123456789012345678901234")
	if b, err := name.Pack("123456789012345678901234"); b != full || err != api.OK {
		t.Error("the longest:", b, err)
	}
	if b, err := name.Pack("1234567890123456789012345"); b != [25]byte{} || err != api.ErrName {
		t.Error("too long:", b, err)
	}
}

// unpackIs tells by the words alone what bytes have: a count, the bytes of a name, and noughts.
func unpackIs(t *testing.T, b [25]byte) {
	t.Helper()
	want, wantErr := "", api.ErrName
	if n := int(b[0]); n <= 24 && mayBe(string(b[1:1+n])) && len(bytes.Trim(b[1+n:], "\x00")) == 0 {
		want, wantErr = string(b[1:1+n]), api.OK
	}
	if got, err := name.Unpack(b); got != want || err != wantErr {
		t.Errorf("Unpack of %v: %q %d, want %q %d", b, got, err, want, wantErr)
	}
}

// Promise 3.3: packed names, and all bytes that are another one at one place.
func TestUnpack(t *testing.T) {
	for _, s := range names() {
		for at := range 25 {
			for v := range 256 {
				b := packed(s)
				b[at] = byte(v)
				unpackIs(t, b)
			}
		}
	}
}

// Promise 3.3: bytes that are no packed name.
func TestUnpackByHand(t *testing.T) {
	full := [25]byte(bytes.Repeat([]byte{'x'}, 25))
	for _, b := range [][25]byte{
		{}, {0, 97}, {1}, {2, 97}, {1, 97, 98}, {3, 97, 98}, {1, 46}, {2, 46, 46}, {1, 47}, {3, 97, 47, 98}, {3, 97, 0, 98}, {2, 97, 0}, {2, 0, 97}, {25, 97}, {255, 97}, {128}, full,
		{24: 1}, {1, 97, 24: 1}, {1, 97, 3: 98},
	} {
		if s, err := name.Unpack(b); s != "" || err != api.ErrName {
			t.Errorf("Unpack of %v: %q %d, want none and ErrName", b, s, err)
		}
	}
	full[0] = 24
	if s, err := name.Unpack(full); s != strings.Repeat("x", 24) || err != api.OK {
		t.Errorf("Unpack of the longest: %q %d", s, err)
	}
	if s, err := name.Unpack([25]byte{2, 97, 98}); s != "ab" || err != api.OK {
		t.Errorf("Unpack of ab: %q %d", s, err)
	}
	if s, err := name.Unpack([25]byte{3, 46, 46, 46}); s != "..." || err != api.OK {
		t.Errorf("Unpack of three full stops: %q %d", s, err)
	}
}

// Promise 3.4: of two unlike texts just one is less, and what is less than something less is less.
func TestOrder(t *testing.T) {
	l := unique(texts())
	for _, a := range l {
		for _, b := range l {
			if less, more := name.Less(a, b), name.Less(b, a); a == b && (less || more) || a != b && less == more {
				t.Errorf("%q and %q: less %v, and the other way round %v", a, b, less, more)
			}
			if !name.Less(a, b) {
				continue
			}
			for _, c := range l {
				if name.Less(b, c) && !name.Less(a, c) {
					t.Errorf("%q is less than %q, and that than %q, but the first not than the last", a, b, c)
				}
			}
		}
	}
}

// Promise 3.4: what is packed is unpacked, and names with the same bytes are the same.
func TestPackedIsUnpacked(t *testing.T) {
	seen := map[[25]byte]string{}
	for _, s := range unique(names()) {
		b, err := name.Pack(s)
		if again, errAgain := name.Unpack(b); err != api.OK || again != s || errAgain != api.OK {
			t.Errorf("%q packed and unpacked: %q %d %d", s, again, err, errAgain)
		}
		if other, ok := seen[b]; ok {
			t.Errorf("%q and %q have the same bytes", s, other)
		}
		seen[b] = s
	}
}

// Promises 3.2 and 3.4: what is sorted rises, each text stands in its place, and sorted again it is the same.
func TestSortedHasPlaces(t *testing.T) {
	l := name.Sort(mixed(texts(), 3))
	for k, s := range l {
		if at, ok := name.Place(l, s); at != k || !ok {
			t.Errorf("%q stands at %d, but its Place is %d %v", s, k, at, ok)
		}
		if k > 0 && !name.Less(l[k-1], s) {
			t.Errorf("%q and %q don't rise", l[k-1], s)
		}
	}
	if !slices.Equal(name.Sort(l), l) {
		t.Error("sorted again it is not the same")
	}
}

// Promise P1: every call ends and none panics, at all arguments.
func TestAnyArguments(t *testing.T) {
	for first := range 256 {
		for _, rest := range []byte{0, 1, '.', '/', 'a', 255} {
			b := [25]byte(bytes.Repeat([]byte{rest}, 25))
			b[0] = byte(first)
			unpackIs(t, b)
		}
	}
	long := strings.Repeat("0123456789", 1<<17)
	if name.Check(long) != api.ErrName || name.Less(long, long) || !name.Less(long, long+"0") {
		t.Error("a long text")
	}
	if b, err := name.Pack(long); b != [25]byte{} || err != api.ErrName {
		t.Error("a long text is packed:", b, err)
	}
	var many []string
	for k := range 100000 {
		many = append(many, strconv.Itoa(k%70000))
	}
	l := name.Sort(many)
	if at, ok := name.Place(l, long); len(l) != 70000 || ok || at != countLess(l, long) {
		t.Error("many texts:", len(l), at, ok)
	}
}
