package fleet_test

import (
	"fmt"
	"strings"
	"testing"

	"convoy/api"
	"convoy/audit"
	"convoy/fleet"
	"convoy/world"
)

// mixed is tick.Mix as its chapter tells it.
func mixed(x uint64) uint64 {
	x ^= x >> 30
	x *= 0xbf58476d1ce4e5b9
	x ^= x >> 27
	x *= 0x94d049bb133111eb
	return x ^ x>>31
}

// summed is tick.Hash with the seed 0 as its chapter tells it.
func summed(s string) uint64 {
	h := uint64(14695981039346656037)
	for n := 0; n < len(s); n++ {
		h ^= uint64(s[n])
		h *= 1099511628211
	}
	return mixed(h)
}

// text is what all clients of a world had.
func text(w *world.World, clients int) string {
	var all strings.Builder
	for n := range clients {
		for _, g := range w.Log(n) {
			f := g.Outcome.Fail
			fmt.Fprintf(&all, "%d %d %d %d %d %d %d ", g.Place, g.How, g.Outcome.Value, f.Kind, f.Code, f.Run, g.At)
		}
		all.WriteByte(10)
	}
	return all.String()
}

// plain is the report of a script as the chapter tells it, of a world that goes on turn by turn.
func plain(s api.Script, turns int) api.Report {
	if at, err := world.Check(s); err != api.OK {
		return api.Report{Err: err, At: at}
	}
	w, _, _ := world.New(s)
	r := api.Report{}
	for r.Turns < turns && w.Turn() {
		r.Turns++
	}
	r.Quiet = len(w.Ready()) == 0 && len(w.Armed()) == 0
	r.Now = w.Now()
	for n := range s.Clients {
		if w.Ended(n) {
			r.Ended++
		}
	}
	for _, e := range w.Events() {
		r.Runs = max(r.Runs, e.Run) // runs are numbered in the order in which they are begun
	}
	told := text(w, len(s.Clients))
	r.Had = strings.Count(told, " ") / 7
	r.Sum = summed(told)
	r.Broken, r.Where, _ = audit.All(w.Events(), s.Config)
	return r
}

// TestPlainSum: the sum that the tests reckon is that of the chapter, by numbers from elsewhere.
func TestPlainSum(t *testing.T) {
	same(t, "of nothing", summed(""), 0xf52a15e9a9b5e89b)
	same(t, "of a text", summed("0 5 7 0 0 0 0 \n0 3 7 0 0 0 0 \n"), 0xad0e489885217fd5)
	same(t, "mixed", mixed(1), 0x5692161d100b05e5)
}

// TestOnePlain: by many scripts, all policies, and all numbers of turns, One is what the chapter tells (27.1).
func TestOnePlain(t *testing.T) {
	s := saw{}
	for seed := range int64(1500) {
		script := newLots(seed).maybe()
		for policy := range 5 {
			if script.Policy < 5 {
				script.Policy = policy
			}
			turns := newLots(seed*5 + int64(policy)).Intn(120)
			for _, n := range []int{turns, 1 << 40} {
				r := fleet.One(script, n)
				if want := plain(script, n); r != want {
					t.Fatalf("%+v, %d:\n%+v\nnot\n%+v", script, n, r, want)
				}
				s.count(r, len(script.Clients))
			}
		}
	}
	s.enough(t, 500, "errors", "quiet", "not quiet", "all ended", "some ended", "nobody ended", "nothing had", "some had", "runs", "ticks")
}

func (s saw) count(r api.Report, clients int) {
	for what, is := range map[string]bool{
		"errors":       r.Err != api.OK,
		"quiet":        r.Quiet,
		"not quiet":    r.Err == api.OK && !r.Quiet,
		"all ended":    r.Err == api.OK && r.Ended == clients,
		"some ended":   r.Ended > 0 && r.Ended < clients,
		"nobody ended": r.Err == api.OK && r.Ended == 0,
		"nothing had":  r.Err == api.OK && r.Had == 0,
		"some had":     r.Had > 0,
		"runs":         r.Runs > 1,
		"ticks":        r.Now > 9,
	} {
		if is {
			s[what]++
		}
	}
}
