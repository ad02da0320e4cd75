package console

import (
	"fmt"
	"slices"
	"strings"
	"testing"

	"coachhouse/api"
)

// play a script of lines, each with ' => ' and its answer behind it.
func play(t *testing.T, script string) {
	t.Helper()
	var lines, answers []string
	for _, row := range strings.Split(strings.Trim(script, "\n"), "\n") {
		line, answer, ok := strings.Cut(row, " => ")
		if !ok {
			t.Fatalf("%q has no answer", row)
		}
		lines, answers = append(lines, line), append(answers, answer)
	}
	for i, got := range run(t, lines...) {
		if got != answers[i] {
			t.Errorf("line %d: %q => %s, want %s", i+1, lines[i], got, answers[i])
		}
	}
}

// run lines that aren't too many.
func run(t *testing.T, lines ...string) []string {
	t.Helper()
	answers, err := Run(lines)
	if err != nil {
		t.Fatalf("%q: %v", lines, err)
	}
	if len(answers) != len(lines) {
		t.Fatalf("%d answers to %d lines", len(answers), len(lines))
	}
	return answers
}

// last of the answers to lines.
func last(t *testing.T, lines ...string) string {
	t.Helper()
	answers := run(t, lines...)
	return answers[len(answers)-1]
}

const example = `
plant => error 7
tower 5 5 5 9 9 9 => ok
arrive 11 => ok
park 11 4 4 4 => 1
tick 40 => ok
arrive 22 => ok
park 22 3 3 3 => 2
tick 40 => ok
cars => 1.0.0 22; 1.0.1 11
stays => 1 11 1.0.1; 2 22 1.0.0
want 1 => ok
jobs => fetch 1
tick 8 => ok
plant => 3 0 shut 0 22 0
tick 60 => ok
plant => 0 0 open 0 0 11
cars => 1.0.0 22
leave => 11
tick 60 => ok
cars => 1.0.0 22
stays => 2 22 1.0.0
arrive 33 => ok
park 33 7 7 7 => 3
come 2 => ok
tick 30 => ok
plant => 0 0 open 2 0 33
go 9 => ok
stall 2 => ok
tick 60 => ok
cars => 1.0.0 22; 2.0.1 33
restart 0 => ok
want 3 => ok
want 3 => error 6
tick 60 => ok
plant => 0 0 open 0 0 33
leave => 33
leave => error 7
arrive 44 => ok
park 44 2 2 2 => 4
leave => 44
tick 20 => ok
stays => 2 22 1.0.0
jobs => -
park 9 9 9 9 => error 7
want 9 => error 5
tower 9 9 9 5 5 5 => error 3
arrive 0 => error 1
come 10 => error 1
fly high => error 4
`

func TestJ1J2Example(t *testing.T) { play(t, example) }

func TestJ1HowManyLines(t *testing.T) {
	for _, n := range []int{0, 1, api.MaxLines} {
		for _, got := range run(t, slices.Repeat([]string{"tower 9 9 9"}, n)...) {
			if got != "ok" {
				t.Errorf("%d lines: %s", n, got)
			}
		}
	}
	for _, n := range []int{api.MaxLines + 1, 1000} {
		for _, line := range []string{"", "tower 9 9 9", "fly high"} {
			if got, err := Run(slices.Repeat([]string{line}, n)); err != api.ErrMany || len(got) != 0 {
				t.Errorf("%d lines: %q, %v", n, got, err)
			}
		}
	}
	if got, err := Run(nil); err != nil || len(got) != 0 {
		t.Errorf("no lines: %q, %v", got, err)
	}
}

func TestJ1ATowerIsNew(t *testing.T) {
	play(t, `
tower 5 5 5 9 9 9 => ok
plant => 0 0 open 0 0 0
cars => -
stays => -
jobs => -
arrive 11 => ok
park 11 4 4 4 => 1
tick 40 => ok
arrive 22 => ok
park 22 4 4 4 => 2
come 3 => ok
tower 9 9 9 => ok
plant => 0 0 open 0 0 0
cars => -
stays => -
jobs => -
arrive 22 => ok
park 22 9 9 9 => 1
stays => 1 22 1.0.1
tick 40 => ok
cars => 1.0.1 22
`)
}

// A tower that can't be leaves the one that is there as it is.
func TestJ1J2ATowerThatCantBe(t *testing.T) {
	const before = `
tower 5 5 5 9 9 9 => ok
arrive 11 => ok
park 11 4 4 4 => 1
tick 7 => ok
`
	const after = `
plant => 3 -1 shut 0 11 0
stays => 1 11 1.0.1
jobs => store 1
tick 40 => ok
cars => 1.0.1 11
arrive 22 => ok
park 22 9 9 9 => 2
stays => 1 11 1.0.1; 2 22 2.0.1
`
	for _, c := range []struct{ line, answer, none string }{
		{"tower", "error 4", "error 7"},
		{"tower 9", "error 4", "error 7"},
		{"tower 9 9", "error 4", "error 7"},
		{"tower 9 9 9 9", "error 4", "error 7"},
		{"tower 9 9 9 9 9", "error 4", "error 7"},
		{"tower 1 1 1 1 1 1 1 1 1 1 1 1 1", "error 4", "error 7"},
		{"tower 9 9 9 ", "error 4", "error 4"},
		{"tower 9 9 9 x", "error 4", "error 4"},
		{"tower 9 9 x", "error 4", "error 4"},
		{"tower 1 1 1000000", "error 4", "error 4"},
		{"tower 0 1 1", "error 1", "error 1"},
		{"tower 1 0 1", "error 1", "error 1"},
		{"tower 1 1 0", "error 1", "error 1"},
		{"tower 100 1 1", "error 1", "error 1"},
		{"tower 1 1 999999", "error 1", "error 1"},
		{"tower 9 9 9 5 5 5", "error 3", "error 3"},
		{"tower 9 9 9 9 9 8 9 9 9 9 8 9", "error 3", "error 3"},
		{"tower 1 1 1 1 1 1 1 1 1 1 1 1 1 1 1", "error 2", "error 2"},
		{"tower 0 0 0 0 0 0 0 0 0 0 0 0 0 0 0", "error 2", "error 2"},
	} {
		play(t, before+c.line+" => "+c.answer+after)
		play(t, c.line+" => "+c.none+"\nplant => error 7")
	}
}

func TestJ1MostLevels(t *testing.T) {
	play(t, `
tower 1 1 1 2 2 2 3 3 3 99 99 99 => ok
arrive 1 => ok
park 1 99 99 99 => 1
tick 60 => ok
cars => 4.0.1 1
arrive 2 => ok
park 2 3 1 1 => 2
tick 60 => ok
cars => 3.0.1 2; 4.0.1 1
arrive 3 => ok
park 3 1 2 1 => 3
tick 60 => ok
cars => 2.0.1 3; 3.0.1 2; 4.0.1 1
stays => 1 1 4.0.1; 2 2 3.0.1; 3 3 2.0.1
`)
}

// Which number is which of a size's, of levels and of cars.
func TestJ1Sizes(t *testing.T) {
	play(t, `
tower 3 5 7 => ok
arrive 1 => ok
park 1 4 5 7 => error 8
park 1 3 6 7 => error 8
park 1 3 5 8 => error 8
park 1 0 5 7 => error 1
park 1 3 0 7 => error 1
park 1 3 5 0 => error 1
park 1 100 5 7 => error 1
park 1 3 100 7 => error 1
park 1 3 5 100 => error 1
stays => -
park 1 3 5 7 => 1
tower 3 5 7 4 9 9 => ok
arrive 1 => ok
park 1 3 5 8 => 1
stays => 1 1 2.0.1
`)
}

func TestJ1ArriveLeave(t *testing.T) {
	play(t, `
tower 9 9 9 => ok
leave => error 7
arrive 0 => error 1
arrive 1000 => error 1
arrive 999999 => error 1
plant => 0 0 open 0 0 0
arrive 999 => ok
plant => 0 0 open 0 0 999
arrive 1000 => error 1
arrive 999 => error 7
arrive 1 => error 7
leave => 999
leave => error 7
arrive 1 => ok
park 1 1 1 1 => 1
tick 2 => ok
plant => 0 0 shut 0 1 0
leave => error 7
arrive 2 => error 7
arrive 0 => error 1
tick 40 => ok
arrive 1 => error 6
arrive 2 => ok
leave => 2
cars => 1.0.1 1
`)
}

func TestJ1ComeGo(t *testing.T) {
	play(t, `
tower 9 9 9 => ok
come 0 => ok
plant => 0 0 open 0 0 0
come 2 => ok
plant => 0 0 open 2 0 0
come 10 => error 1
go 10 => error 1
come 999999 => error 1
go 999999 => error 1
plant => 0 0 open 2 0 0
come 9 => ok
plant => 0 0 open 9 0 0
go 4 => ok
plant => 0 0 open 5 0 0
go 0 => ok
go 9 => ok
plant => 0 0 open 0 0 0
arrive 1 => ok
park 1 1 1 1 => 1
come 1 => ok
tick 9 => ok
plant => 0 0 open 1 0 1
go 1 => ok
tick 1 => ok
plant => 0 0 shut 0 0 1
come 1 => error 7
go 1 => error 7
come 10 => error 1
plant => 0 0 shut 0 0 1
`)
}

func TestJ1Stall(t *testing.T) {
	play(t, `
tower 9 9 9 => ok
stall 6 => error 1
stall 999999 => error 1
arrive 1 => ok
park 1 1 1 1 => 1
stall 5 => ok
tick 5 => ok
plant => 0 0 open 0 0 1
tick 1 => ok
plant => 0 0 shut 0 0 1
stall 5 => ok
stall 6 => error 1
stall 1 => ok
tick 1 => ok
plant => 0 0 shut 0 0 1
tick 1 => ok
plant => 0 0 shut 0 1 0
stall 5 => ok
stall 0 => ok
tick 2 => ok
plant => 1 0 shut 0 1 0
`)
}

func TestJ1Park(t *testing.T) {
	play(t, `
tower 9 9 9 => ok
park 1 1 1 1 => error 7
park 0 1 1 1 => error 7
park 1000 1 1 1 => error 7
arrive 5 => ok
park 4 1 1 1 => error 7
park 5 10 1 1 => error 8
jobs => -
park 5 1 1 1 => 1
jobs => store 1
park 5 1 1 1 => error 6
park 5 0 1 1 => error 1
tick 40 => ok
park 5 1 1 1 => error 7
arrive 6 => ok
park 6 1 1 1 => 2
tick 40 => ok
arrive 7 => ok
park 7 1 1 1 => error 8
stays => 1 5 1.0.1; 2 6 1.0.0
cars => 1.0.0 6; 1.0.1 5
jobs => -
`)
}

func TestJ1Want(t *testing.T) {
	play(t, `
tower 9 9 9 => ok
want 0 => error 5
want 1 => error 5
want 999999 => error 5
arrive 5 => ok
park 5 1 1 1 => 1
want 2 => error 5
want 1 => ok
want 1 => error 6
jobs => store 1; fetch 1
tick 60 => ok
plant => 0 0 open 0 0 5
stays => -
jobs => -
want 1 => error 5
leave => 5
arrive 5 => ok
park 5 1 1 1 => 2
`)
}

// All that is to be done, up to as much as there may be.
func TestJ1MostJobs(t *testing.T) {
	lines := []string{"tower 9 9 9 9 9 9 9 9 9"}
	for id := range 9 {
		lines = append(lines, fmt.Sprint("arrive ", id+101), fmt.Sprint("park ", id+101, " 1 1 1"), "tick 60")
	}
	want := make([]string, 0, api.MaxJobs)
	for ticket := 9; ticket > 1; ticket-- {
		lines = append(lines, fmt.Sprint("want ", ticket))
		want = append(want, fmt.Sprint("fetch ", ticket))
	}
	if got := last(t, lines...); got != "ok" {
		t.Errorf("the last one that may be wanted: %s", got)
	}
	if got := last(t, append(lines, "want 1")...); got != "error 8" {
		t.Errorf("one too many: %s", got)
	}
	if got := last(t, append(lines, "jobs")...); got != strings.Join(want, "; ") {
		t.Errorf("jobs: %s", got)
	}
	if got := run(t, append(lines, "arrive 200", "park 200 1 1 1")...); got[len(got)-1] != "error 8" {
		t.Errorf("park beside all jobs: %s", got[len(got)-1])
	}
	const stays = "1 101 1.0.1; 2 102 1.0.0; 3 103 1.1.1; 4 104 1.1.0; 5 105 2.0.1; 6 106 2.0.0; 7 107 2.1.1; 8 108 2.1.0; 9 109 3.0.1"
	if got := last(t, append(lines, "stays")...); got != stays {
		t.Errorf("stays: %s", got)
	}
}

func TestJ1Tick(t *testing.T) {
	play(t, `
tower 5 5 5 9 9 9 => ok
tick 0 => ok
tick 1 => ok
plant => 0 0 open 0 0 0
arrive 11 => ok
park 11 4 4 4 => 1
tick 0 => ok
plant => 0 0 open 0 0 11
tick 1 => ok
plant => 0 0 shut 0 0 11
tick 5 => ok
plant => 3 0 shut 0 11 0
tick 1 => ok
plant => 3 -1 shut 0 11 0
tick 1 => ok
plant => 3 -2 shut 0 11 0
tick 1 => ok
plant => 3 -2 shut 0 0 0
cars => 1.0.1 11
jobs => store 1
tick 3 => ok
jobs => store 1
tick 1 => ok
jobs => -
plant => 3 0 shut 0 0 0
tick 999999 => ok
plant => 0 0 open 0 0 0
`)
}

// 200 ticks at most: more of them would be seen in nothing else than in how much is done, as the house always rests by then.
func TestJ1TickAtMost(t *testing.T) {
	effort := func(n int) float64 {
		lines := []string{"tower 9 9 9", "arrive 100", "park 100 1 1 1", "tick 100", fmt.Sprint("tick ", n)}
		return testing.AllocsPerRun(5, func() { run(t, lines...) })
	}
	most := effort(200)
	if less := effort(150); most <= less {
		t.Fatalf("200 ticks take %v, 150 take %v: it can't be told how many are done", most, less)
	}
	if less := effort(199); most <= less {
		t.Errorf("200 ticks take %v, 199 take %v", most, less)
	}
	for _, n := range []int{201, 400, 999999} {
		if got := effort(n); got != most {
			t.Errorf("%d ticks take %v, 200 take %v", n, got, most)
		}
	}
}

// Each number of the machine, and the shuttle at both sides.
func TestJ1Plant(t *testing.T) {
	play(t, `
tower 9 9 9 9 9 9 => ok
arrive 11 => ok
come 3 => ok
plant => 0 0 open 3 0 11
go 3 => ok
park 11 1 1 1 => 1
tick 8 => ok
plant => 3 -2 shut 0 11 0
tick 60 => ok
arrive 22 => ok
park 22 1 1 1 => 2
tick 7 => ok
plant => 3 -1 shut 0 22 0
tick 60 => ok
arrive 33 => ok
park 33 1 1 1 => 3
tick 8 => ok
plant => 3 2 shut 0 33 0
tick 1 => ok
plant => 3 2 shut 0 0 0
`)
}

// Cars of all places, also the one that is set aside: in front ahead of behind.
func TestJ1Cars(t *testing.T) {
	lines := []string{"tower 9 9 9 9 9 9"}
	for id := range 6 {
		lines = append(lines, fmt.Sprint("arrive ", id+101), fmt.Sprint("park ", id+101, " 1 1 1"), "tick 60")
	}
	lines = append(lines, "cars")
	const all = "1.0.0 102; 1.0.1 101; 1.1.0 104; 1.1.1 103; 2.0.0 106; 2.0.1 105"
	if got := last(t, lines...); got != all {
		t.Errorf("all are there: %s", got)
	}
	lines = append(lines, "want 5", "tick 14", "plant", "cars")
	got := run(t, lines...)
	const aside = "1.0.0 102; 1.0.1 101; 1.1.0 104; 1.1.1 103; 2.0.1 105; 2.1.0 106"
	if got[len(got)-1] != aside {
		t.Errorf("one is set aside: %s; %s", got[len(got)-2], got[len(got)-1])
	}
	lines = append(lines, "tick 200", "plant", "cars")
	got = run(t, lines...)
	const fetched = "1.0.0 102; 1.0.1 101; 1.1.0 104; 1.1.1 103; 2.0.0 106"
	if got[len(got)-2] != "0 0 open 0 0 105" || got[len(got)-1] != fetched {
		t.Errorf("one is fetched: %s; %s", got[len(got)-2], got[len(got)-1])
	}
}

// A house that is made anew has the book and the machine, but none of the goals: it draws the shuttle in first.
func TestJ1Restart(t *testing.T) {
	for _, n := range []string{"0", "1", "5", "999999"} {
		play(t, `
tower 5 5 5 9 9 9 => ok
arrive 11 => ok
park 11 4 4 4 => 1
tick 7 => ok
plant => 3 -1 shut 0 11 0
restart `+n+` => ok
plant => 3 -1 shut 0 11 0
stays => 1 11 1.0.1
jobs => store 1
tick 1 => ok
plant => 3 0 shut 0 11 0
tick 1 => ok
plant => 3 -1 shut 0 11 0
tick 1 => ok
plant => 3 -2 shut 0 11 0
tick 40 => ok
cars => 1.0.1 11
jobs => -
arrive 22 => ok
park 22 4 4 4 => 2
restart `+n+` => ok
plant => 0 0 open 0 0 22
stays => 1 11 1.0.1; 2 22 1.0.0
jobs => store 2
tick 40 => ok
cars => 1.0.0 22; 1.0.1 11
`)
	}
}
