package front_test

import (
	"fmt"
	"math"
	"math/rand/v2"
	"regexp"
	"slices"
	"strconv"
	"strings"
	"testing"

	"potsherd/api"
	"potsherd/front"
)

const greatest = math.MaxInt32

// everyOrder is one of each kind, with its line.
func everyOrder() map[string]api.Order {
	return map[string]api.Order{
		"load (table t ((k int)))\n":    {Kind: api.OrderLoad, Text: "(table t ((k int)))"},
		"ask (from t)\n":                {Kind: api.OrderAsk, Text: "(from t)"},
		"tick\n":                        {Kind: api.OrderTick},
		"round\n":                       {Kind: api.OrderRound},
		"deliver 3\n":                   {Kind: api.OrderDeliver, N: 3},
		"drop 4\n":                      {Kind: api.OrderDrop, N: 4},
		"copy 5\n":                      {Kind: api.OrderCopy, N: 5},
		"crash 1 20\n":                  {Kind: api.OrderCrash, N: 1, Keep: 20},
		"restart 2\n":                   {Kind: api.OrderRestart, N: 2},
		"fuse 3 7\n":                    {Kind: api.OrderFuse, N: 3, Keep: 7},
		"load \n":                       {Kind: api.OrderLoad},
		"ask \n":                        {Kind: api.OrderAsk},
		"ask  \n":                       {Kind: api.OrderAsk, Text: " "},
		"load  x  y \n":                 {Kind: api.OrderLoad, Text: " x  y "},
		"ask \r\x00\xff\u00e9\t\n":      {Kind: api.OrderAsk, Text: "\r\x00\xffé\t"},
		"ask tick\n":                    {Kind: api.OrderAsk, Text: "tick"},
		"deliver 0\n":                   {Kind: api.OrderDeliver},
		"drop 2147483647\n":             {Kind: api.OrderDrop, N: greatest},
		"copy 10\n":                     {Kind: api.OrderCopy, N: 10},
		"crash 0 0\n":                   {Kind: api.OrderCrash},
		"crash 2147483647 2147483647\n": {Kind: api.OrderCrash, N: greatest, Keep: greatest},
		"fuse 0 2147483647\n":           {Kind: api.OrderFuse, Keep: greatest},
		"restart 0\n":                   {Kind: api.OrderRestart},
		"load " + long(2048) + "\n":     {Kind: api.OrderLoad, Text: long(2048)},
		"ask " + long(2048) + "\n":      {Kind: api.OrderAsk, Text: long(2048)},
	}
}

func long(n int) string { return strings.Repeat("x", n) }

func TestLines(t *testing.T) { // 20.2, 20.5
	for line, o := range everyOrder() {
		got, why, at := front.Parse(line)
		if why != api.OK || at != 0 || !slices.Equal(got, []api.Order{o}) {
			t.Errorf("Parse(%.99q): %v, error %d, line %d", line, got, why, at)
		}
		if s, why := front.Print([]api.Order{o}); why != api.OK || s != line {
			t.Errorf("Print(%v): %q, error %d; not %q", o, s, why, line)
		}
	}
	script := "tick\nask (from t)\ncrash 1 2\ntick\n"
	want := []api.Order{{Kind: api.OrderTick}, {Kind: api.OrderAsk, Text: "(from t)"}, {Kind: api.OrderCrash, N: 1, Keep: 2}, {Kind: api.OrderTick}}
	if got, why, at := front.Parse(script); why != api.OK || at != 0 || !slices.Equal(got, want) {
		t.Errorf("Parse: %v, error %d, line %d", got, why, at)
	}
	if s, why := front.Print(want); why != api.OK || s != script {
		t.Errorf("Print: %q, error %d", s, why)
	}
}

func TestNoScript(t *testing.T) { // 20.2
	if l, why, at := front.Parse(""); why != api.OK || at != 0 || len(l) > 0 {
		t.Errorf("Parse of nothing: %v, error %d, line %d", l, why, at)
	}
	for _, l := range [][]api.Order{nil, {}} {
		if s, why := front.Print(l); why != api.OK || s != "" {
			t.Errorf("Print of nothing: %q, error %d", s, why)
		}
	}
}

func TestNoLines(t *testing.T) { // 20.2
	var l []string
	l = append(l, "\n", "", " \n", "\r\n", "x\n", "TICK\n", "Tick\n", "ticks\n", " tick\n", "tick \n", "tick\r\n", "tick 1\n", "tick  \n", "tick\t\n")
	l = append(l, "round \n", "round 0\n", "ask\n", "load\n", "asks x\n", "ask\tx\n", "as k\n", "?\n", "\x00\n", "none\n", "tick;\n")
	for _, word := range []string{"deliver", "drop", "copy", "restart"} {
		for _, n := range []string{"", " ", " 01", " 00", " -1", " -0", " +1", " 1 ", "  1", " 1 2", " 1.0", " 1e3", " 0x1", " 1_0", " a", " ٣", " 2147483648", " 4294967296", " 9223372036854775808", " 18446744073709551616", " 99999999999999999999999", "1", "\t1", " 1\r"} {
			l = append(l, word+n+"\n")
		}
	}
	for _, word := range []string{"crash", "fuse"} {
		for _, n := range []string{"", " ", " 1", " 1 ", " 1  2", "  1 2", " 1 2 ", " 1 2 3", " 01 2", " 1 02", " -1 2", " 1 -2", " 1 +2", " 2147483648 0", " 0 2147483648", " 1 2147483648", " a 1", " 1 a", " 1\t2", " 1,2", " 1 2\r"} {
			l = append(l, word+n+"\n")
		}
	}
	l = append(l, "ask "+long(2049)+"\n", "load "+long(2049)+"\n")
	for _, line := range l {
		for ahead := range 3 {
			s := strings.Repeat("tick\n", ahead) + line
			if line == "" {
				s += "tick" // without an LF
			}
			for _, behind := range []string{"", "tick\n", "x\n"} {
				if line == "" && behind != "" {
					continue
				}
				got, why, at := front.Parse(s + behind)
				if why != api.ErrSyntax || at != ahead+1 || len(got) > 0 {
					t.Errorf("Parse(%.99q): %v, error %d, line %d", s+behind, got, why, at)
				}
			}
		}
	}
	for line := range everyOrder() {
		s := strings.TrimSuffix(line, "\n")
		if got, why, at := front.Parse("tick\n" + s); why != api.ErrSyntax || at != 2 || len(got) > 0 {
			t.Errorf("Parse(%.99q): %v, error %d, line %d", s, got, why, at)
		}
	}
}

func TestManyLines(t *testing.T) { // 20.2: MaxSteps, and one more
	ticks := func(n int) string { return strings.Repeat("tick\n", n) }
	for _, x := range []struct {
		s   string
		why api.Errno
		at  int
	}{
		{ticks(1023), api.OK, 0},
		{ticks(1024), api.OK, 0},
		{ticks(1025), api.ErrMany, 1025},
		{ticks(2000), api.ErrMany, 1025},
		{ticks(1024) + "x\n", api.ErrSyntax, 1025},
		{ticks(1024) + "tick", api.ErrSyntax, 1025},
		{ticks(1025) + "x\n", api.ErrMany, 1025},
		{ticks(1023) + "x\n" + ticks(9), api.ErrSyntax, 1024},
		{"x\n" + ticks(2000), api.ErrSyntax, 1},
	} {
		l, why, at := front.Parse(x.s)
		if why != x.why || at != x.at || why != api.OK && len(l) > 0 {
			t.Errorf("%d bytes: %d orders, error %d, line %d; not %d, %d", len(x.s), len(l), why, at, x.why, x.at)
		}
	}
	tick := []api.Order{{Kind: api.OrderTick}}
	for n, want := range map[int]api.Errno{1024: api.OK, 1025: api.ErrSyntax, 5000: api.ErrSyntax, 100000: api.ErrSyntax} {
		s, why := front.Print(slices.Repeat(tick, n))
		if why != want || why == api.OK && s != ticks(n) || why != api.OK && s != "" {
			t.Errorf("Print of %d orders: %d bytes, error %d; not %d", n, len(s), why, want)
		}
	}
}

func TestLongScripts(t *testing.T) { // 20.2: MaxScript, and one more
	line := "ask " + long(2043) + "\n" // 2048 bytes
	asks := strings.Repeat(line, 31)
	for _, x := range []struct {
		s   string
		why api.Errno
		at  int
	}{
		{asks + line, api.OK, 0},
		{asks + "ask " + long(2044) + "\n", api.ErrLong, 0},
		{asks + line + "\n", api.ErrLong, 0},
		{long(65536), api.ErrSyntax, 1},
		{long(65537), api.ErrLong, 0},
		{strings.Repeat("tick\n", 13107) + "\n", api.ErrMany, 1025}, // 65536
		{strings.Repeat("tick\n", 13108), api.ErrLong, 0},
		{strings.Repeat("\n", 70000), api.ErrLong, 0},
	} {
		l, why, at := front.Parse(x.s)
		if why != x.why || at != x.at || why != api.OK && len(l) > 0 {
			t.Errorf("%d bytes: %d orders, error %d, line %d; not %d, %d", len(x.s), len(l), why, at, x.why, x.at)
		}
	}
	l, _, _ := front.Parse(asks + line)
	if s, why := front.Print(l); why != api.OK || s != asks+line {
		t.Errorf("Print: %d bytes, error %d", len(s), why)
	}
	l[31].Text += "x"
	if s, why := front.Print(l); why != api.ErrLong || s != "" {
		t.Errorf("Print of one byte more: %d bytes, error %d", len(s), why)
	}
	l[0].N = 1
	if s, why := front.Print(l); why != api.ErrSyntax || s != "" {
		t.Errorf("Print of one that is not right, too: %d bytes, error %d", len(s), why)
	}
	l[0].N = 0
	if s, why := front.Print(slices.Repeat(l, 40)); why != api.ErrSyntax || s != "" {
		t.Errorf("Print of too many, too: %d bytes, error %d", len(s), why)
	}
}

func TestOrdersThatAreNotRight(t *testing.T) { // 20.2
	texts := []string{"x", "(from t)", " ", "\n"}
	var l []api.Order
	for kind := api.OrderNone; kind <= api.OrderCount+1; kind++ {
		isOne := kind > api.OrderNone && kind < api.OrderCount
		hasText := kind == api.OrderLoad || kind == api.OrderAsk
		hasN := kind >= api.OrderDeliver && isOne
		hasKeep := kind == api.OrderCrash || kind == api.OrderFuse
		if !isOne {
			l = append(l, api.Order{Kind: kind})
		}
		for _, n := range []int{1, 7, greatest} {
			if !hasN {
				l = append(l, api.Order{Kind: kind, N: n})
			}
			if !hasKeep {
				l = append(l, api.Order{Kind: kind, Keep: n})
			}
		}
		for _, n := range []int{-1, greatest + 1, math.MaxInt, math.MinInt} {
			l = append(l, api.Order{Kind: kind, N: n}, api.Order{Kind: kind, Keep: n}, api.Order{Kind: kind, N: 1, Keep: n}, api.Order{Kind: kind, N: n, Keep: 1})
		}
		for _, s := range texts {
			if !hasText {
				l = append(l, api.Order{Kind: kind, Text: s})
			}
		}
		l = append(l, api.Order{Kind: kind, Text: "a\n"}, api.Order{Kind: kind, Text: "\nb"}, api.Order{Kind: kind, Text: "a\ntick"}, api.Order{Kind: kind, Text: long(2049)}, api.Order{Kind: kind, Text: long(70000)})
	}
	l = append(l, api.Order{Kind: 255})
	tick := api.Order{Kind: api.OrderTick}
	for _, o := range l {
		for _, orders := range [][]api.Order{{o}, {tick, o}, {o, tick}, {tick, o, tick}} {
			if s, why := front.Print(orders); why != api.ErrSyntax || s != "" {
				t.Errorf("Print(%.99v): %.99q, error %d", orders, s, why)
			}
		}
	}
}

// lineForm is a line once more.
var lineForm = regexp.MustCompile(`(?s)^(?:(tick|round)|(load|ask) ([^\n]{0,1000}[^\n]{0,1000}[^\n]{0,48})|(deliver|drop|copy|restart) (0|[1-9][0-9]*)|(crash|fuse) (0|[1-9][0-9]*) (0|[1-9][0-9]*))\n$`)

// secondLine is the order of a line of bytes below 128.
func secondLine(line string) (o api.Order, ok bool) {
	m := lineForm.FindStringSubmatch(line)
	if m == nil {
		return o, false
	}
	word := m[1] + m[2] + m[4] + m[6]
	kinds := []string{"", "load", "ask", "tick", "round", "deliver", "drop", "copy", "crash", "restart", "fuse"}
	n, err := strconv.ParseInt("0"+m[5]+m[7], 10, 32)
	keep, err1 := strconv.ParseInt("0"+m[8], 10, 32)
	return api.Order{Kind: api.OrderKind(slices.Index(kinds, word)), N: int(n), Keep: int(keep), Text: m[3]}, err == nil && err1 == nil
}

func secondParse(s string) (l []api.Order, why api.Errno, at int) {
	if len(s) > 65536 {
		return nil, api.ErrLong, 0
	}
	for n := 1; s != ""; n++ {
		i := strings.IndexByte(s, '\n')
		o, ok := secondLine(s[:i+1])
		if i < 0 || !ok {
			return nil, api.ErrSyntax, n
		}
		if n == 1025 {
			return nil, api.ErrMany, n
		}
		l, s = append(l, o), s[i+1:]
	}
	return l, api.OK, 0
}

func someLine(r *rand.Rand) string {
	number := func() string {
		return pick(r, "0", "1", "7", "10", "2147483647", "2147483648", "01", "-1", "", " ", fmt.Sprint(r.Uint32()), "99999999999999999999")
	}
	rest := []string{"", " " + number(), " " + number(), " " + number() + " " + number(), " (from t)", " ", "  "}
	return pick(r, "tick", "round", "load", "ask", "deliver", "drop", "copy", "crash", "restart", "fuse", "x", "") + pick(r, rest...)
}

func TestAnyScripts(t *testing.T) { // 20.2, 20.5, P1, P5
	r := rand.New(rand.NewPCG(20, 3))
	seen := make(map[api.Errno]int)
	for range 30000 {
		var b strings.Builder
		for range r.IntN(4) {
			b.WriteString(someLine(r) + pick(r, "\n", "\n", "\n", "\n", "\n", "\n", "\n", "", "\n\n", "\r\n"))
		}
		s := b.String()
		l, why, at := front.Parse(s)
		want, wantWhy, wantAt := secondParse(s)
		if why != wantWhy || at != wantAt || !slices.Equal(l, want) {
			t.Fatalf("Parse(%q): %v, error %d, line %d; not %v, %d, %d", s, l, why, at, want, wantWhy, wantAt)
		}
		seen[why]++
		if why != api.OK {
			continue
		}
		if again, why := front.Print(l); why != api.OK || again != s {
			t.Fatalf("Print: %q, error %d; not %q", again, why, s)
		}
	}
	if seen[api.OK] < 3000 || seen[api.ErrSyntax] < 3000 {
		t.Error(seen)
	}
}

func someOrder(r *rand.Rand) api.Order {
	o := api.Order{Kind: api.OrderKind(r.IntN(12))}
	if r.IntN(3) > 0 {
		o.N = pick(r, 0, 1, 7, greatest, greatest+1, -1, r.IntN(greatest), r.Int())
	}
	if r.IntN(3) == 0 {
		o.Keep = pick(r, 0, 1, 7, greatest, greatest+1, -1, r.IntN(greatest))
	}
	if r.IntN(3) == 0 {
		o.Text = pick(r, "", "x", "(from t)", " a ", "a\nb", "\xff\x00", "é", "\r", long(2048), long(2049))
	}
	return o
}

// isRightOrder is what the chapter says of orders.
func isRightOrder(o api.Order) bool {
	has := map[api.OrderKind]string{api.OrderLoad: "T", api.OrderAsk: "T", api.OrderTick: "-", api.OrderRound: "-", api.OrderDeliver: "N", api.OrderDrop: "N", api.OrderCopy: "N", api.OrderCrash: "NK", api.OrderRestart: "N", api.OrderFuse: "NK"}[o.Kind]
	isNumber := func(n int, letter string) bool {
		return n == 0 || strings.Contains(has, letter) && n > 0 && n <= greatest
	}
	return has != "" && isNumber(o.N, "N") && isNumber(o.Keep, "K") && (o.Text == "" || has == "T" && len(o.Text) <= 2048 && !strings.Contains(o.Text, "\n"))
}

func TestOrdersThereAndBack(t *testing.T) { // 20.2, 20.5, P5
	r := rand.New(rand.NewPCG(20, 4))
	right, wrong := 0, 0
	for range 30000 {
		var l []api.Order
		isRight := true
		for range r.IntN(4) {
			o := someOrder(r)
			for range 20 {
				if isRightOrder(o) || r.IntN(20) == 0 {
					break
				}
				o = someOrder(r)
			}
			l = append(l, o)
			isRight = isRight && isRightOrder(o)
		}
		s, why := front.Print(l)
		if isRight != (why == api.OK) || !isRight && (why != api.ErrSyntax || s != "") {
			t.Fatalf("Print(%.99v): %.99q, error %d", l, s, why)
		}
		if !isRight {
			wrong++
			continue
		}
		right++
		again, why, at := front.Parse(s)
		if why != api.OK || at != 0 || !slices.Equal(again, l) {
			t.Fatalf("Parse(%.99q): %.99v, error %d, line %d; not %.99v", s, again, why, at, l)
		}
	}
	if right < 5000 || wrong < 2000 {
		t.Errorf("%d are right, %d are not", right, wrong)
	}
}
