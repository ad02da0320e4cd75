package console

import (
	"fmt"
	"regexp"
	"slices"
	"strconv"
	"strings"
	"testing"

	"coachhouse/api"
)

// wordsOne: the words that have one number behind them; wordsBare: those that have none.
var (
	wordsOne  = []string{"arrive", "come", "go", "stall", "want", "tick", "arm", "restart"}
	wordsBare = []string{"leave", "plant", "cars", "stays", "jobs"}
)

// isLine: is there a line of that word, with so many numbers?
func isLine(word string, numbers int) bool {
	switch {
	case word == "tower":
		return numbers > 0 && numbers%3 == 0
	case word == "park":
		return numbers == 4
	case slices.Contains(wordsOne, word):
		return numbers == 1
	}
	return slices.Contains(wordsBare, word) && numbers == 0
}

// TestJ2HowManyNumbers: each word, and words that are none, with more and fewer numbers than they have.
func TestJ2HowManyNumbers(t *testing.T) {
	words := slices.Concat(wordsOne, wordsBare, []string{"tower", "park", "fly", "Plant", "PLANT", "tick\t", "walk", "sense", "", "7", "-"})
	for _, word := range words {
		for n := range 16 {
			line := word + strings.Repeat(" 1", n)
			with := last(t, "tower 9 9 9", line)
			if (with != "error 4") != isLine(word, n) {
				t.Errorf("%q => %s", line, with)
			}
			without := last(t, line)
			if word == "tower" && isLine(word, n) {
				if without != with {
					t.Errorf("%q without a tower => %s, with one => %s", line, without, with)
				}
			} else if without != "error 7" {
				t.Errorf("%q without a tower => %s", line, without)
			}
		}
	}
}

// notNumbers: words that are no number from 0 to MaxTicket, though some of them may be read as one.
func notNumbers() []string {
	return []string{
		"", "x", "1x", "x1", "-", "+", "-1", "-0", "+1", "+0", "00", "01", "007", "1.0", "1,0", "1e2", "0x1", "0b1", "1_0", "1\t", "\t1", "1\n", "1\x00", "'1'",
		strconv.Itoa(api.MaxTicket + 1), "2147483648", "4294967297", "9223372036854775807", "9223372036854775808", "18446744073709551617",
		"1000000000000000000000000000000001", "\u0661", "\uff11", "\u00b9", "\xff", "one", "1;", "error",
	}
}

func TestJ2NotANumber(t *testing.T) {
	for _, bad := range notNumbers() {
		for _, word := range slices.Concat(wordsOne, wordsBare, []string{"fly"}) {
			line := word + " " + bad
			if got := last(t, "tower 9 9 9", line); got != "error 4" {
				t.Errorf("%q => %s", line, got)
			}
			if got := last(t, line); got != "error 4" {
				t.Errorf("%q without a tower => %s", line, got)
			}
		}
		for _, form := range []string{"park %s 1 1 1", "park 1 %s 1 1", "park 1 1 %s 1", "park 1 1 1 %s", "tower %s 9 9", "tower 9 %s 9", "tower 9 9 %s"} {
			line := fmt.Sprintf(form, bad)
			if got := last(t, "tower 9 9 9", "arrive 1", line); got != "error 4" {
				t.Errorf("%q => %s", line, got)
			}
		}
	}
}

func TestJ1NumbersUpToTheMost(t *testing.T) {
	for _, c := range []struct{ word, least, most string }{
		{"arrive", "error 1", "error 1"},
		{"come", "ok", "error 1"},
		{"go", "ok", "error 1"},
		{"stall", "ok", "error 1"},
		{"want", "error 5", "error 5"},
		{"tick", "ok", "ok"},
		{"restart", "ok", "ok"},
	} {
		least, most := c.word+" 0", c.word+" "+strconv.Itoa(api.MaxTicket)
		if got := last(t, "tower 9 9 9", least); got != c.least {
			t.Errorf("%s => %s, want %s", least, got, c.least)
		}
		if got := last(t, "tower 9 9 9", most); got != c.most {
			t.Errorf("%s => %s, want %s", most, got, c.most)
		}
	}
}

func TestJ2Blanks(t *testing.T) {
	for _, line := range []string{
		" ", "  ", " plant", "plant ", " plant ", "\tplant", "plant\n", "plant\r", "plant\u00a0", "tick  1", "tick 1 ", " tick 1", "tick\t1", "tick1", "tick\u00a01",
		"park 1  1 1 1", "park 1 1 1 1 ", "tower  9 9 9", " tower 9 9 9", "tower 9 9 9 ",
	} {
		if got := last(t, "tower 9 9 9", "arrive 1", line); got != "error 4" {
			t.Errorf("%q => %s", line, got)
		}
	}
}

// TestJ2Long: the bytes of a line are counted, not its letters.
func TestJ2Long(t *testing.T) {
	levels := "tower" + strings.Repeat(" 999", 13) + " 9 9" // 15 numbers are too many levels
	levels = strings.Replace(levels, "999", strings.Repeat("9", 3+api.MaxLine-len(levels)), 1)
	for _, c := range []struct {
		line, short, long string // its answer; and with one byte more
	}{
		{levels, "error 2", "error 4"},
		{strings.Repeat("x", api.MaxLine), "error 7", "error 4"},
		{strings.Repeat("\u00e9", api.MaxLine/2), "error 7", "error 4"},
		{"want" + strings.Repeat(" 0", (api.MaxLine-4)/2), "error 7", "error 4"},
	} {
		if len(c.line) != api.MaxLine {
			t.Fatalf("%q has %d bytes", c.line, len(c.line))
		}
		long := c.line + "1"
		if strings.HasPrefix(c.line, "want") {
			long = "want1" + c.line[4:]
		}
		if got := last(t, c.line); got != c.short {
			t.Errorf("%q => %s, want %s", c.line, got, c.short)
		}
		if got := last(t, long); got != c.long {
			t.Errorf("%q => %s, want %s", long, got, c.long)
		}
	}
	for _, line := range []string{strings.Repeat("1", 1<<20), "tick " + strings.Repeat("0", 1<<20), strings.Repeat(" ", 1<<20), "plant" + strings.Repeat(" ", 56)} {
		for _, first := range []string{"tower 9 9 9", "plant"} {
			if got := last(t, first, line); got != "error 4" {
				t.Errorf("%.20q.. of %d bytes => %s", line, len(line), got)
			}
		}
	}
}

// die: numbers that look drawn, the same each time.
type die uint64

func (d *die) n(most int) int {
	*d = *d*6364136223846793005 + 1442695040888963407
	return int(uint64(*d>>33) % uint64(most))
}

// line that is drawn: most are right ones.
func (d *die) line() string {
	k := strconv.Itoa(1 + d.n(6))
	switch d.n(14) {
	case 0:
		return "arrive " + k
	case 1, 2:
		return "park " + k + " " + strconv.Itoa(1+d.n(9)) + " 2 2"
	case 3, 4:
		return "want " + k
	case 5, 6, 7:
		return "tick " + strconv.Itoa([]int{1, 5, 30, 200}[d.n(4)])
	case 8, 9:
		return wordsBare[d.n(len(wordsBare))]
	case 10:
		return []string{"come 2", "go 9", "go 9", "stall 3", "restart 0", "restart 999"}[d.n(6)]
	case 11:
		return "leave"
	case 12:
		bad := notNumbers()
		return wordsOne[d.n(len(wordsOne))] + " " + bad[d.n(len(bad))]
	}
	letters := make([]byte, d.n(70))
	for i := range letters {
		letters[i] = byte(d.n(256))
	}
	return string(letters)
}

// lines of a session, over a tower from the line at on.
func (d *die) lines(at int) []string {
	lines := make([]string, 1+d.n(api.MaxLines))
	for i := range lines {
		lines[i] = d.line()
	}
	if at < len(lines) {
		lines[at] = []string{"tower 9 9 9", "tower 5 5 5 9 9 9", "tower 3 3 3 9 9 9 9 9 9"}[d.n(3)]
	}
	return lines
}

const (
	placeForm = `[1-4]\.[01]\.[01]`
	carForm   = placeForm + ` [1-9][0-9]*`
	stayForm  = `[1-9][0-9]* [1-9][0-9]* ` + placeForm
	jobForm   = `(store|fetch) [1-9][0-9]*`
)

// forms of the answers to a word.
func forms() map[string]*regexp.Regexp {
	list := func(item string) *regexp.Regexp {
		return regexp.MustCompile(`^(-|` + item + `(; ` + item + `)*)$`)
	}
	return map[string]*regexp.Regexp{
		"cars":  list(carForm),
		"stays": list(stayForm),
		"jobs":  list(jobForm),
		"plant": regexp.MustCompile(`^([0-9]|1[0-2]) (-[12]|[0-2]) (open|shut) [0-9] [0-9]+ [0-9]+$`),
		"leave": regexp.MustCompile(`^([1-9][0-9]*|error 7)$`),
		"park":  regexp.MustCompile(`^([1-9][0-9]*|error [14678])$`),
		"":      regexp.MustCompile(`^(ok|error [1-9])$`),
	}
}

// TestJ1J2Z1Z2Drawn: whatever lines there are, each is answered in its form; the same again; by the lines ahead of it alone;
// and nothing is written into what is handed in.
func TestJ1J2Z1Z2Drawn(t *testing.T) {
	d := die(21)
	form := forms()
	for range 400 {
		at := d.n(3)
		lines := d.lines(at)
		handed := slices.Clone(lines)
		got := run(t, handed...)
		if !slices.Equal(lines, handed) {
			t.Fatalf("%q has become %q", lines, handed)
		}
		if again := run(t, lines...); !slices.Equal(again, got) {
			t.Fatalf("%q: %q, then %q", lines, got, again)
		}
		n := d.n(len(lines))
		if ahead := run(t, lines[:n]...); !slices.Equal(ahead, got[:n]) {
			t.Fatalf("%q: %q, without what is behind %q", lines, got[:n], ahead)
		}
		for i, line := range lines {
			word, _, _ := strings.Cut(line, " ")
			f := form[word]
			if f == nil || i < at {
				f = form[""]
			}
			if !f.MatchString(got[i]) && got[i] != "error 4" {
				t.Errorf("%q => %s", line, got[i])
			}
		}
	}
}

// TestZ2Lists: no list is read or written into beyond its end, and what comes out isn't shared.
func TestZ2Lists(t *testing.T) {
	all := []string{"tower 9 9 9", "arrive 1", "tower 9 9 9", "fly"}
	first := run(t, all[:2]...)
	second := run(t, all[:2]...)
	_ = append(first, "more")
	first[0], first[1] = "x", "y"
	if want := []string{"ok", "ok"}; !slices.Equal(second, want) {
		t.Errorf("%q, want %q", second, want)
	}
	if want := []string{"tower 9 9 9", "arrive 1", "tower 9 9 9", "fly"}; !slices.Equal(all, want) {
		t.Errorf("%q was written into", all)
	}
}

// inside: which cars are told to be in the tower, by cars and plant.
func inside(t *testing.T, cars, plant string) []string {
	t.Helper()
	var ids []string
	for _, item := range strings.Split(cars, "; ") {
		if _, id, ok := strings.Cut(item, " "); ok {
			ids = append(ids, id)
		}
	}
	words := strings.Fields(plant)
	if len(words) != 6 {
		t.Fatalf("plant => %s", plant)
	}
	for _, id := range words[4:] {
		if id != "0" {
			ids = append(ids, id)
		}
	}
	slices.Sort(ids)
	return ids
}

// TestJ2W2Arm: also when the disk falls each line is answered, and no car is lost.
func TestJ2W2Arm(t *testing.T) {
	d := die(22)
	falls := 0
	for range 1000 {
		lines := d.lines(0)[:1]
		for len(lines) < api.MaxLines-3 {
			lines = append(lines, d.line())
			switch d.n(16) {
			case 0, 1:
				lines = append(lines, "arm "+strconv.Itoa(d.n(15)))
			case 2:
				lines = append(lines, "restart "+strconv.Itoa(d.n(api.MaxTicket+1)))
			}
		}
		lines = append(lines, "cars", "plant")
		got := run(t, lines...)
		var there []string
		for i, line := range lines {
			word, id, _ := strings.Cut(line, " ")
			switch {
			case got[i] == "":
				t.Errorf("%q isn't answered", line)
			case got[i] == "error 9":
				falls++
			case word == "arrive" && got[i] == "ok":
				there = append(there, id)
			case line == "leave" && !strings.HasPrefix(got[i], "error"):
				there = slices.DeleteFunc(there, func(id string) bool { return id == got[i] })
			}
		}
		slices.Sort(there)
		if now := inside(t, got[len(got)-2], got[len(got)-1]); !slices.Equal(now, there) {
			t.Fatalf("the cars %q are %q: %q", there, now, lines)
		}
	}
	if falls < 300 {
		t.Errorf("%d falls only", falls)
	}
}

// TestJ1W6ArmAndRestart: at whatever step the disk falls while a car is given a ticket, put away, asked for or fetched, the
// session is brought to an end behind a restart.
func TestJ1W6ArmAndRestart(t *testing.T) {
	falls := 0
	for steps := range 30 {
		for _, keep := range []int{0, 1, 2, 1 << 9, 0x55555, api.MaxTicket} {
			anew := "restart " + strconv.Itoa(keep)
			lines := []string{
				"tower 5 5 5 9 9 9", "arrive 11", "arm " + strconv.Itoa(steps),
				"park 11 4 4 4", "tick 200", anew, "park 11 4 4 4", "tick 200",
				"arm " + strconv.Itoa(steps), "want 1", "tick 200", anew, "want 1", "tick 200",
				"plant", "cars", "stays", "jobs",
			}
			got := run(t, lines...)
			if end, want := got[len(got)-4:], []string{"0 0 open 0 0 11", "-", "-", "-"}; !slices.Equal(end, want) {
				t.Errorf("%d steps, %s: %q, want %q", steps, anew, end, want)
			}
			if slices.Contains(got, "error 9") {
				falls++
			}
		}
	}
	if falls < 100 {
		t.Errorf("%d falls only", falls)
	}
}

// TestJ1RestartKeeps: its number says what is kept of what was written, so that behind some fall it decides on a ticket.
func TestJ1RestartKeeps(t *testing.T) {
	decided := 0
	for steps := range 30 {
		stays := func(keep int) string {
			return last(t, "tower 9 9 9", "arrive 11", fmt.Sprint("arm ", steps), "park 11 1 1 1", fmt.Sprint("restart ", keep), "stays")
		}
		lost, kept := stays(0), stays(1<<19-1)
		for _, got := range []string{lost, kept} {
			if got != "-" && got != "1 11 1.0.1" {
				t.Errorf("%d steps: stays => %s", steps, got)
			}
		}
		if lost != kept {
			decided++
		}
	}
	if decided == 0 {
		t.Error("what is kept makes no difference")
	}
}
