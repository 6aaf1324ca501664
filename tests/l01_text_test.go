package tests

import (
	"math"
	"slices"
	"strings"
	"testing"

	"loop.example/g00751/impl"
)

func TestMaxText(t *testing.T) {
	if impl.MaxText != 20000 {
		t.Error(impl.MaxText)
	}
}

func TestDecText(t *testing.T) {
	cases := []struct {
		n    int
		want string
	}{
		{0, "0"}, {1, "1"}, {9, "9"}, {10, "10"}, {100, "100"}, {120, "120"},
		{-1, "-1"}, {-9, "-9"}, {-10, "-10"}, {-120, "-120"},
		{999999999, "999999999"}, {1000000000, "1000000000"}, {-1000000000, "-1000000000"},
		{math.MaxInt, "9223372036854775807"}, {math.MinInt, "-9223372036854775808"},
		{math.MinInt + 1, "-9223372036854775807"},
	}
	for _, c := range cases {
		if got := impl.DecText(c.n); got != c.want {
			t.Errorf("DecText(%d) = %q, want %q", c.n, got, c.want)
		}
	}
}

func TestReadDec(t *testing.T) {
	cases := []struct {
		s    string
		want int
	}{
		{"0", 0}, {"1", 1}, {"9", 9}, {"10", 10}, {"120", 120}, {"100000000", 100000000},
		{"999999998", 999999998}, {"999999999", 999999999},
	}
	for _, c := range cases {
		if got := impl.ReadDec(c.s); got != c.want {
			t.Errorf("ReadDec(%q) = %d, want %d", c.s, got, c.want)
		}
	}
}

func TestReadDecOfNoNumber(t *testing.T) {
	texts := []string{
		"", " ", "-", "+", "-0", "+0", "-1", "+1", "--1", "-999999999",
		"00", "01", "012", "000000000", "0000000001", "099999999",
		"a", "1a", "a1", " 1", "1 ", "1 2", "1\n", "\t1", "1.0", "1e3", "0x1", "1_0", "_1", "1,0",
		"1\x00", "\x001", "/", ":", "1:", "1/", "\xff", "1\x80", "٣", "１",
		"1000000000", "9999999999", "4294967296", "4294967297",
		"9223372036854775807", "9223372036854775808", "18446744073709551616", "18446744073709551617",
		strings.Repeat("0", 50), strings.Repeat("1", 50), strings.Repeat("9", 30000),
	}
	for _, s := range texts {
		if got := impl.ReadDec(s); got != -1 {
			t.Errorf("ReadDec(%q) = %d, want -1", s, got)
		}
	}
}

func TestReadDecOfEveryByte(t *testing.T) {
	for b := range 256 {
		for _, s := range []string{string([]byte{byte(b)}), string([]byte{'1', byte(b)})} {
			want := -1
			if b >= '0' && b <= '9' {
				want = b - '0'
				if len(s) == 2 {
					want += 10
				}
			}
			if got := impl.ReadDec(s); got != want {
				t.Errorf("ReadDec(%q) = %d, want %d", s, got, want)
			}
		}
	}
}

func TestNumbersAreRecovered(t *testing.T) {
	check := func(n int) {
		if got := impl.ReadDec(impl.DecText(n)); got != n {
			t.Errorf("ReadDec(DecText(%d)) = %d", n, got)
		}
	}
	for n := range 12000 {
		check(n)
		check(999999999 - n)
	}
	for n := 1; n <= 999999999; n = n*3 + 1 {
		check(n)
	}
	for p := 10; p < 1000000000; p *= 10 {
		check(p - 1)
		check(p)
		check(p + 1)
	}
	for _, n := range []int{-1, -10, 1000000000, math.MaxInt, math.MinInt} {
		if got := impl.ReadDec(impl.DecText(n)); got != -1 {
			t.Errorf("ReadDec(DecText(%d)) = %d, want -1", n, got)
		}
	}
}

func TestBefore(t *testing.T) {
	// In byte order, so every earlier string precedes every later one.
	order := []string{
		"", "\x00", "\x00\x00", "\x00a", "\n", " ", "0", "10", "2", "A", "Z", "_", "a", "a\x00", "aa", "ab", "abc", "b",
		"\x7f", "\x80", "\x80a", "\xbf", "\xc3\xa4", "\xfe\xff", "\xff", "\xff\x00", "\xff\xff",
	}
	for i, a := range order {
		for j, b := range order {
			if got := impl.Before(a, b); got != (i < j) {
				t.Errorf("Before(%q, %q) = %v", a, b, got)
			}
		}
	}
}

func TestRising(t *testing.T) {
	cases := []struct {
		list []string
		want bool
	}{
		{nil, true}, {[]string{}, true}, {[]string{""}, true}, {[]string{"b"}, true},
		{[]string{"a", "b"}, true}, {[]string{"", "a", "aa", "b"}, true}, {[]string{"a", "\x80"}, true}, {[]string{"Z", "a"}, true},
		{[]string{"a", "a"}, false}, {[]string{"", ""}, false}, {[]string{"b", "a"}, false}, {[]string{"ab", "a"}, false},
		{[]string{"a", "b", "b"}, false}, {[]string{"a", "a", "b"}, false}, {[]string{"a", "c", "b"}, false},
		{[]string{"b", "a", "c"}, false}, {[]string{"a", "b", "a"}, false}, {[]string{"\x80", "a"}, false}, {[]string{"a", "b", "c", "d", "c"}, false},
	}
	for _, c := range cases {
		if got := impl.Rising(c.list); got != c.want {
			t.Errorf("Rising(%q) = %v", c.list, got)
		}
	}
}

func TestJoin(t *testing.T) {
	cases := []struct {
		list []string
		by   string
		want string
	}{
		{nil, "", ""}, {nil, "x", ""}, {[]string{}, "x", ""}, {[]string{""}, "x", ""}, {[]string{"a"}, "x", "a"},
		{[]string{"a", "b"}, "", "ab"}, {[]string{"a", "b"}, ",", "a,b"}, {[]string{"b", "a", "b"}, ", ", "b, a, b"},
		{[]string{"", ""}, "x", "x"}, {[]string{"", "a", ""}, "--", "--a--"}, {[]string{"a,", ",b"}, ",", "a,,,b"},
		{[]string{"\x00", "\xff"}, "\x80", "\x00\x80\xff"},
	}
	for _, c := range cases {
		if got := impl.Join(c.list, c.by); got != c.want {
			t.Errorf("Join(%q, %q) = %q, want %q", c.list, c.by, got, c.want)
		}
	}
}

func TestHas(t *testing.T) {
	cases := []struct {
		list []string
		s    string
		want bool
	}{
		{nil, "", false}, {[]string{}, "", false}, {nil, "a", false}, {[]string{""}, "", true}, {[]string{"a"}, "", false},
		{[]string{"a", "b", "c"}, "a", true}, {[]string{"a", "b", "c"}, "b", true}, {[]string{"a", "b", "c"}, "c", true},
		{[]string{"a", "b", "c"}, "d", false}, {[]string{"ab"}, "a", false}, {[]string{"a"}, "ab", false}, {[]string{"a"}, "A", false},
		{[]string{"c", "b", "a"}, "a", true}, {[]string{"c", "b", "a"}, "c", true}, {[]string{"b", "a", "b"}, "a", true},
		{[]string{"\xff"}, "\xff", true}, {[]string{"\xff"}, "\xfe", false}, {[]string{"\xff"}, "\ufffd", false},
	}
	for _, c := range cases {
		if got := impl.Has(c.list, c.s); got != c.want {
			t.Errorf("Has(%q, %q) = %v", c.list, c.s, got)
		}
	}
}

func TestPut(t *testing.T) {
	cases := []struct {
		list []string
		s    string
		want []string
	}{
		{nil, "b", []string{"b"}}, {[]string{}, "b", []string{"b"}}, {nil, "", []string{""}},
		{[]string{"b", "d"}, "a", []string{"a", "b", "d"}}, {[]string{"b", "d"}, "b", []string{"b", "d"}},
		{[]string{"b", "d"}, "c", []string{"b", "c", "d"}}, {[]string{"b", "d"}, "d", []string{"b", "d"}},
		{[]string{"b", "d"}, "e", []string{"b", "d", "e"}}, {[]string{"a"}, "", []string{"", "a"}}, {[]string{""}, "", []string{""}},
		{[]string{"a", "abc"}, "ab", []string{"a", "ab", "abc"}}, {[]string{"a", "\x81"}, "\x80", []string{"a", "\x80", "\x81"}},
		// Lists that are not rising.
		{[]string{"c", "a"}, "b", []string{"b", "c", "a"}}, {[]string{"c", "a"}, "a", []string{"a", "c", "a"}},
		{[]string{"c", "a"}, "c", []string{"c", "a"}}, {[]string{"c", "a"}, "d", []string{"c", "a", "d"}},
		{[]string{"c", "b", "a"}, "b", []string{"b", "c", "b", "a"}}, {[]string{"a", "c", "b"}, "b", []string{"a", "b", "c", "b"}},
		{[]string{"b", "a", "d", "c"}, "c", []string{"b", "a", "c", "d", "c"}}, {[]string{"b", "a", "c", "a"}, "c", []string{"b", "a", "c", "a"}},
		{[]string{"b", "b"}, "b", []string{"b", "b"}}, {[]string{"b", "b"}, "a", []string{"a", "b", "b"}},
		{[]string{"b", "b"}, "c", []string{"b", "b", "c"}}, {[]string{"a", "a", "b", "b", "b"}, "b", []string{"a", "a", "b", "b", "b"}},
		{[]string{"e", "d", "c", "b", "a", "e", "f"}, "e", []string{"e", "d", "c", "b", "a", "e", "f"}},
		{[]string{"a", "e", "b", "c", "d", "f", "g"}, "d", []string{"a", "d", "e", "b", "c", "d", "f", "g"}},
	}
	for _, c := range cases {
		if got := impl.Put(c.list, c.s); !slices.Equal(got, c.want) {
			t.Errorf("Put(%q, %q) = %q, want %q", c.list, c.s, got, c.want)
		}
	}
}

func TestWithout(t *testing.T) {
	cases := []struct {
		list []string
		s    string
		want []string
	}{
		{nil, "a", nil}, {nil, "", nil}, {[]string{}, "", nil}, {[]string{"a"}, "a", nil}, {[]string{"a", "a"}, "a", nil},
		{[]string{"a"}, "b", []string{"a"}}, {[]string{"a"}, "", []string{"a"}}, {[]string{"", "a", ""}, "", []string{"a"}},
		{[]string{"a", "b", "c"}, "a", []string{"b", "c"}}, {[]string{"a", "b", "c"}, "b", []string{"a", "c"}},
		{[]string{"a", "b", "c"}, "c", []string{"a", "b"}}, {[]string{"a", "b", "c"}, "d", []string{"a", "b", "c"}},
		{[]string{"b", "a", "b", "b", "a"}, "b", []string{"a", "a"}}, {[]string{"c", "b", "a"}, "b", []string{"c", "a"}},
		{[]string{"a", "ab", "abc"}, "ab", []string{"a", "abc"}}, {[]string{"c", "b", "c", "a"}, "x", []string{"c", "b", "c", "a"}},
	}
	for _, c := range cases {
		if got := impl.Without(c.list, c.s); !slices.Equal(got, c.want) {
			t.Errorf("Without(%q, %q) = %q, want %q", c.list, c.s, got, c.want)
		}
	}
}

// smallLists returns all lists of at most size words.
func smallLists(words []string, size int) [][]string {
	all := [][]string{nil}
	last := all
	for range size {
		var next [][]string
		for _, list := range last {
			for _, w := range words {
				next = append(next, append(slices.Clone(list), w))
			}
		}
		all = append(all, next...)
		last = next
	}
	return all
}

var smallWords = []string{"", "a", "ab", "b", "\x80"}

func TestListsRemainRising(t *testing.T) {
	for _, list := range smallLists(smallWords, 4) {
		if !impl.Rising(list) {
			continue
		}
		for _, s := range smallWords {
			put := impl.Put(list, s)
			want := slices.Compact(slices.Sorted(slices.Values(append(slices.Clone(list), s))))
			if !impl.Rising(put) || !slices.Equal(put, want) {
				t.Errorf("Put(%q, %q) = %q, want %q", list, s, put, want)
			}
			if rest := impl.Without(list, s); !impl.Rising(rest) {
				t.Errorf("Without(%q, %q) = %q is not rising", list, s, rest)
			}
		}
	}
}

func TestInsertedIsPresentAndRemovedIsNot(t *testing.T) {
	for _, list := range smallLists(smallWords, 4) {
		for _, s := range smallWords {
			put := impl.Put(list, s)
			rest := impl.Without(list, s)
			if !impl.Has(put, s) || impl.Has(rest, s) {
				t.Errorf("%q: Put(%q) = %q, Without = %q", list, s, put, rest)
			}
			if len(put) != len(list) && len(put) != len(list)+1 {
				t.Errorf("Put(%q, %q) = %q", list, s, put)
			}
			if got := impl.Without(put, s); !slices.Equal(got, rest) {
				t.Errorf("Without(Put(%q, %q)) = %q, want %q", list, s, got, rest)
			}
			for _, other := range smallWords {
				if other != s && (impl.Has(put, other) != impl.Has(list, other) || impl.Has(rest, other) != impl.Has(list, other)) {
					t.Errorf("%q: %q changes whether %q is present", list, s, other)
				}
			}
		}
	}
}

// roomy returns list as the front of a longer array whose further elements are marked.
func roomy(list []string) (front []string, whole []string) {
	whole = slices.Concat(list, []string{"spare 1", "spare 2", "spare 3"})
	return whole[:len(list)], whole
}

func TestTextArgumentsAreUnchanged(t *testing.T) {
	for _, list := range smallLists(smallWords, 3) {
		for _, s := range smallWords {
			front, whole := roomy(list)
			before := slices.Clone(whole)
			impl.Rising(front)
			impl.Join(front, s)
			impl.Has(front, s)
			impl.Put(front, s)
			impl.Without(front, s)
			if !slices.Equal(whole, before) {
				t.Fatalf("%q, %q: the argument became %q", list, s, whole)
			}
		}
	}
}

func TestTextResultsShareNoMemory(t *testing.T) {
	for _, list := range smallLists(smallWords, 3) {
		for _, s := range smallWords {
			front, whole := roomy(list)
			before := slices.Clone(whole)
			for _, got := range [][]string{impl.Put(front, s), impl.Without(front, s)} {
				full := got[:cap(got)]
				for i := range full {
					full[i] = "overwritten"
				}
				if !slices.Equal(whole, before) {
					t.Fatalf("%q, %q: writing into the result changed the argument to %q", list, s, whole)
				}
			}
		}
	}
}
