package num_test

import (
	"math"
	"math/big"
	"slices"
	"strconv"
	"strings"
	"testing"

	"gantry/api"
	"gantry/num"
)

const most = api.Most

// edges are numbers at which an answer may turn, and some between.
func edges() []int {
	var l []int
	for _, n := range []int{0, 1, 2, 5, 9, 10, 11, 99, 100, 101, 999, 1000, 12345, 1<<31 - 1, 1 << 31, 1<<32 - 1, 1 << 32, 1 << 53, most / 10, most/10 + 1, most/2 - 1, most / 2, most/2 + 1, most - 2, most - 1, most, most + 1, most + 2, math.MaxInt - 1, math.MaxInt} {
		l = append(l, n, -n)
	}
	for n := 1; n < most/10; n *= 10 {
		l = append(l, n-1, n, n+1, 1-n, -n, -n-1)
	}
	for n := 1; n < most; n *= 2 {
		l = append(l, n-1, n, n+1, 1-n, -n, -n-1)
	}
	return append(l, math.MinInt, math.MinInt+1, math.MinInt+2)
}

// may is P1.1 as its words say it, upon numbers without a bound.
func may(n *big.Int) bool {
	return new(big.Int).Abs(n).Cmp(big.NewInt(most)) <= 0
}

func wide(n int) *big.Int { return big.NewInt(int64(n)) }

// hold tells whether what was answered is want, if a, b and want may be, else ErrOver.
func hold(a, b, got int, e api.Errno, want *big.Int) bool {
	if !may(wide(a)) || !may(wide(b)) || !may(want) {
		return got == 0 && e == api.ErrOver
	}
	return got == int(want.Int64()) && e == api.OK
}

// P1.1: 2^62 may be and one past it may not, both ways.
func TestMay(t *testing.T) {
	for n, want := range map[int]bool{
		0: true, 1: true, -1: true, 1 << 61: true, -1 << 61: true,
		most - 1: true, 1 - most: true, most: true, -most: true,
		most + 1: false, -most - 1: false, most + 2: false, -most - 2: false,
		math.MaxInt: false, math.MinInt: false, math.MaxInt - 1: false, math.MinInt + 1: false,
	} {
		if num.May(n) != want {
			t.Error(n, !want)
		}
	}
	for _, n := range edges() {
		if num.May(n) != may(wide(n)) {
			t.Error(n)
		}
	}
}

// P1.1: sums and differences, the bound, and what goes round.
func TestAddSub(t *testing.T) {
	for _, c := range []struct {
		a, b, sum int
		e         api.Errno
	}{
		{0, 0, 0, api.OK},
		{2, 3, 5, api.OK},
		{-2, 3, 1, api.OK},
		{2, -3, -1, api.OK},
		{most, 0, most, api.OK},
		{-most, 0, -most, api.OK},
		{most - 1, 1, most, api.OK},
		{1 - most, -1, -most, api.OK},
		{most / 2, most / 2, most, api.OK},
		{most, -most, 0, api.OK},
		{most, 1, 0, api.ErrOver},
		{-most, -1, 0, api.ErrOver},
		{most/2 + 1, most / 2, 0, api.ErrOver},
		{most, most, 0, api.ErrOver},
		{-most, -most, 0, api.ErrOver},
		// the sum may be, one of the two may not
		{most + 1, -1, 0, api.ErrOver},
		{-1, most + 1, 0, api.ErrOver},
		{-most - 1, 1, 0, api.ErrOver},
		{1, -most - 1, 0, api.ErrOver},
		{math.MaxInt, -math.MaxInt, 0, api.ErrOver},
		// the sum goes round to one that may be
		{math.MaxInt, math.MaxInt, 0, api.ErrOver},
		{-math.MaxInt, -math.MaxInt, 0, api.ErrOver},
	} {
		if n, e := num.Add(c.a, c.b); n != c.sum || e != c.e {
			t.Error("Add", c, n, e)
		}
		if n, e := num.Sub(c.a, -c.b); n != c.sum || e != c.e {
			t.Error("Sub", c, n, e)
		}
	}
	if n, e := num.Sub(7, 10); n != -3 || e != api.OK {
		t.Error(n, e)
	}
	for _, a := range []int{math.MinInt, -most, -1, 0, 1, most, math.MaxInt} {
		if n, e := num.Add(a, math.MinInt); n != 0 || e != api.ErrOver {
			t.Error("Add", a, n, e)
		}
		if n, e := num.Sub(a, math.MinInt); n != 0 || e != api.ErrOver {
			t.Error("Sub", a, n, e)
		}
		if n, e := num.Sub(math.MinInt, a); n != 0 || e != api.ErrOver {
			t.Error("Sub", a, n, e)
		}
	}
}

// P1.1: each two of the edges, held against numbers without a bound.
func TestAddSubEdges(t *testing.T) {
	l := edges()
	for _, a := range l {
		for _, b := range l {
			if n, e := num.Add(a, b); !hold(a, b, n, e, new(big.Int).Add(wide(a), wide(b))) {
				t.Fatal("Add", a, b, n, e)
			}
			if n, e := num.Sub(a, b); !hold(a, b, n, e, new(big.Int).Sub(wide(a), wide(b))) {
				t.Fatal("Sub", a, b, n, e)
			}
		}
	}
}

// P1.2: what is a numeral, and what is above Most.
func TestParse(t *testing.T) {
	long := strings.Repeat("9", 1<<16)
	for s, want := range map[string]struct {
		n int
		e api.Errno
	}{
		"0":                   {0, api.OK},
		"7":                   {7, api.OK},
		"10":                  {10, api.OK},
		"1000":                {1000, api.OK},
		"1234567890":          {1234567890, api.OK},
		"4611686018427387903": {most - 1, api.OK},
		"4611686018427387904": {most, api.OK},

		"4611686018427387905":         {0, api.ErrOver},
		"4611686018427387909":         {0, api.ErrOver},
		"4611686018427387910":         {0, api.ErrOver},
		"5000000000000000000":         {0, api.ErrOver},
		"9223372036854775807":         {0, api.ErrOver},
		"9223372036854775808":         {0, api.ErrOver},
		"9999999999999999999":         {0, api.ErrOver},
		"10000000000000000000":        {0, api.ErrOver},
		"18446744073709551615":        {0, api.ErrOver},
		"18446744073709551616":        {0, api.ErrOver}, // 2^64 and the next go round to 0, 1
		"18446744073709551617":        {0, api.ErrOver},
		"46116860184273879040":        {0, api.ErrOver},
		"36893488147419103239":        {0, api.ErrOver},
		"1" + long:                    {0, api.ErrOver},
		long:                          {0, api.ErrOver},
		"1" + strings.Repeat("0", 64): {0, api.ErrOver}, // 10^64 goes round to 0

		"":                         {0, api.ErrLex},
		"00":                       {0, api.ErrLex},
		"01":                       {0, api.ErrLex},
		"007":                      {0, api.ErrLex},
		"0" + long:                 {0, api.ErrLex},
		strings.Repeat("0", 1<<16): {0, api.ErrLex},
		"04611686018427387905":     {0, api.ErrLex},
		"-":                        {0, api.ErrLex},
		"-0":                       {0, api.ErrLex},
		"-1":                       {0, api.ErrLex},
		"+1":                       {0, api.ErrLex},
		"(- 5)":                    {0, api.ErrLex},
		" 1":                       {0, api.ErrLex},
		"1 ":                       {0, api.ErrLex},
		"1\n":                      {0, api.ErrLex},
		"1\x00":                    {0, api.ErrLex},
		"1a":                       {0, api.ErrLex},
		"a":                        {0, api.ErrLex},
		"1_000":                    {0, api.ErrLex},
		"1.0":                      {0, api.ErrLex},
		"1e3":                      {0, api.ErrLex},
		"0x10":                     {0, api.ErrLex},
		"0b1":                      {0, api.ErrLex},
		"١":                        {0, api.ErrLex}, // a digit, but none of these
		"1١":                       {0, api.ErrLex},
		"1\xff":                    {0, api.ErrLex},
		// ErrLex goes ahead of ErrOver, wherever the bad byte stands
		"99999999999999999999x": {0, api.ErrLex},
		"4611686018427387905 ":  {0, api.ErrLex},
		long + "x":              {0, api.ErrLex},
		long + "x" + long:       {0, api.ErrLex},
		"x" + long:              {0, api.ErrLex},
	} {
		if n, e := num.Parse(s); n != want.n || e != want.e {
			t.Errorf("%.40q: %d %v, not %d %v", s, n, e, want.n, want.e)
		}
	}
}

// P1.2: each byte alone, behind a digit and ahead of one.
func TestParseBytes(t *testing.T) {
	for b := range 256 {
		c, d := string([]byte{byte(b)}), b-'0'
		want := [3][2]int{{d, 0}, {10 + d, 0}, {10*d + 1, 0}}
		if d < 0 || d > 9 {
			want = [3][2]int{{0, 20}, {0, 20}, {0, 20}}
		} else if d == 0 {
			want[2] = [2]int{0, 20}
		}
		for i, s := range []string{c, "1" + c, c + "1"} {
			if n, e := num.Parse(s); n != want[i][0] || int(e) != want[i][1] {
				t.Errorf("%q: %d %v", s, n, e)
			}
		}
	}
}

// P1.2: numbers as texts.
func TestText(t *testing.T) {
	for n, want := range map[int]string{
		0: "0", 1: "1", 9: "9", 10: "10", 11: "11", 100: "100", 1203: "1203", 120300: "120300",
		-1: "(- 1)", -5: "(- 5)", -10: "(- 10)", -909: "(- 909)",
		1000000000000000000: "1000000000000000000",
		most - 1:            "4611686018427387903",
		most:                "4611686018427387904",
		1 - most:            "(- 4611686018427387903)",
		-most:               "(- 4611686018427387904)",
	} {
		if s, e := num.Text(n); s != want || e != api.OK {
			t.Error(n, s, e)
		}
	}
	for _, n := range []int{most + 1, -most - 1, math.MaxInt, math.MinInt, math.MinInt + 1} {
		if s, e := num.Text(n); s != "" || e != api.ErrOver {
			t.Error(n, s, e)
		}
	}
	for _, n := range edges() {
		want, we := "", api.ErrOver
		if num.May(n) {
			want, we = strconv.Itoa(n), api.OK
			if n < 0 {
				want = "(- " + want[1:] + ")"
			}
		}
		if s, e := num.Text(n); s != want || e != we {
			t.Error(n, s, e)
		}
	}
}

// P1.3: each without its sign and 1 more, with the bound and what may not be.
func TestSum(t *testing.T) {
	for i, c := range []struct {
		l    []int
		most int
		sum  int
		ok   bool
	}{
		{[]int{-2, 3}, 7, 7, true},
		{[]int{-2, 3}, 6, 0, false},
		{[]int{-2, 3}, most, 7, true},
		{[]int{2, -3}, math.MaxInt, 7, true},
		{[]int{4}, 5, 5, true},
		{[]int{4}, 4, 0, false},
		{[]int{-4}, 5, 5, true},
		{[]int{-4}, 4, 0, false},
		{[]int{0, 0, 0}, 3, 3, true},
		{[]int{0, 0, 0}, 2, 0, false},
		// nothing is put together
		{nil, 0, 0, true},
		{nil, -5, 0, true},
		{[]int{}, -5, 0, true},
		{nil, math.MinInt, 0, true},
		{nil, math.MaxInt, 0, true},
		// the bound below 0 is 0
		{[]int{0}, 0, 0, false},
		{[]int{0}, -1, 0, false},
		{[]int{0}, math.MinInt, 0, false},
		{[]int{-1}, math.MinInt, 0, false},
		{[]int{0}, 1, 1, true},
		// the bound above Most is Most
		{[]int{most - 1}, most, most, true},
		{[]int{1 - most}, most, most, true},
		{[]int{most - 1}, math.MaxInt, most, true},
		{[]int{most - 1}, most - 1, 0, false},
		{[]int{most}, most, 0, false},
		{[]int{-most}, most, 0, false},
		{[]int{most}, most + 1, 0, false},
		{[]int{most}, math.MaxInt, 0, false},
		{[]int{most - 1, 0}, math.MaxInt, 0, false},
		{[]int{0, most - 1}, math.MaxInt, 0, false},
		{[]int{most - 2, 0}, math.MaxInt, most, true},
		{[]int{most/2 - 1, -most/2 + 1}, most, most, true},
		{[]int{most/2 - 1, -most / 2}, most, 0, false},
		// what may not be
		{[]int{most + 1}, math.MaxInt, 0, false},
		{[]int{-most - 1}, math.MaxInt, 0, false},
		{[]int{math.MaxInt}, math.MaxInt, 0, false},
		{[]int{math.MinInt}, math.MaxInt, 0, false},
		{[]int{math.MinInt}, -1, 0, false},
		{[]int{1, 2, math.MinInt}, most, 0, false},
		{[]int{math.MinInt, 1, 2}, most, 0, false},
		// sums that go round
		{[]int{most, most}, math.MaxInt, 0, false},
		{[]int{most, most, most, most}, math.MaxInt, 0, false},
		{[]int{most - 1, most - 1, most - 1, most - 1}, math.MaxInt, 0, false},
		{[]int{5, most, most, most, -most}, most, 0, false},
		{[]int{math.MaxInt, math.MaxInt}, math.MaxInt, 0, false},
	} {
		if n, ok := num.Sum(c.l, c.most); n != c.sum || ok != c.ok {
			t.Error(i, c, n, ok)
		}
	}
	long := make([]int, 1<<16)
	if n, ok := num.Sum(long, 1<<16); n != 1<<16 || !ok {
		t.Error(n, ok)
	}
	if n, ok := num.Sum(long, 1<<16-1); n != 0 || ok {
		t.Error(n, ok)
	}
}

// P1.3: lists of the edges, held against numbers without a bound.
func TestSumEdges(t *testing.T) {
	l := edges()
	for _, a := range l {
		for _, b := range l {
			for _, bound := range []int{math.MinInt, -1, 0, 1, 2, 11, 1 << 32, most - 1, most, most + 1, math.MaxInt} {
				want := new(big.Int).Add(new(big.Int).Abs(wide(a)), new(big.Int).Abs(wide(b)))
				want.Add(want, wide(2))
				ok := may(wide(a)) && may(wide(b)) && want.Cmp(wide(max(0, min(bound, most)))) <= 0
				n, got := num.Sum([]int{a, b}, bound)
				if got != ok || ok && n != int(want.Int64()) || !ok && n != 0 {
					t.Fatal(a, b, bound, n, got)
				}
			}
		}
	}
}

// P1.3 and R4: the list, and the room behind it, are left as they were.
func TestSumLeavesList(t *testing.T) {
	all := []int{-2, 3, -4, 77, -78}
	was := slices.Clone(all)
	for range 2 {
		if n, ok := num.Sum(all[:3], most); n != 12 || !ok {
			t.Error(n, ok)
		}
	}
	if !slices.Equal(all, was) {
		t.Error(all)
	}
}

// P1.4: a numeral, read and told, is itself; so is a number, told and read.
func TestTextOfParse(t *testing.T) {
	for _, n := range edges() {
		if n < 0 || !num.May(n) {
			continue
		}
		s := strconv.Itoa(n)
		m, e := num.Parse(s)
		if m != n || e != api.OK {
			t.Error(s, m, e)
		}
		if u, e := num.Text(m); u != s || e != api.OK {
			t.Error(s, u, e)
		}
	}
	for n := range 20000 {
		s, e := num.Text(n)
		if m, f := num.Parse(s); m != n || e != api.OK || f != api.OK {
			t.Fatal(n, s, m, e, f)
		}
	}
}

// P1.4: Add goes either way about, errors too; Sub takes it back.
func TestAddBack(t *testing.T) {
	l := edges()
	for _, a := range l {
		for _, b := range l {
			n, e := num.Add(a, b)
			if m, f := num.Add(b, a); m != n || f != e {
				t.Fatal(a, b, n, e, m, f)
			}
			if e != api.OK {
				continue
			}
			if m, f := num.Sub(n, b); m != a || f != api.OK {
				t.Fatal(a, b, n, m, f)
			}
			if m, f := num.Sub(n, a); m != b || f != api.OK {
				t.Fatal(a, b, n, m, f)
			}
		}
	}
}
