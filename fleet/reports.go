package fleet

import (
	"slices"

	"convoy/api"
)

// Unlike is how many unlike Sums there are among the reports without an error (27.2).
func Unlike(l []api.Report) int {
	sums := map[uint64]struct{}{}
	for _, r := range l {
		if !failed(r) {
			sums[r.Sum] = struct{}{}
		}
	}
	return len(sums)
}

// First is the place and report of the first script that is broken or has an error, or none (-1) (27.2).
func First(l []api.Script, turns, workers int) (int, api.Report, api.Errno) {
	reports, err := Run(l, turns, workers)
	if err != api.OK {
		return 0, api.Report{}, err
	}
	at := slices.IndexFunc(reports, wrong)
	if at < 0 {
		return at, api.Report{}, api.OK
	}
	return at, reports[at], api.OK
}

// Total adds up the reports without an error, and counts the others (27.2).
func Total(l []api.Report) (api.Report, int) {
	var all api.Report
	errors := 0
	for _, r := range l {
		if failed(r) {
			errors++
			continue
		}
		all.Turns += r.Turns
		all.Ended += r.Ended
		all.Runs += r.Runs
		all.Had += r.Had
	}
	return all, errors
}

func failed(r api.Report) bool { return r.Err != api.OK }

func wrong(r api.Report) bool { return failed(r) || r.Broken >= 0 }
