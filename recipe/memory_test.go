package recipe_test

import (
	"slices"
	"testing"

	"convoy/api"
	"convoy/recipe"
)

// TestHandedInStays: no call changes the steps that it is given, nor what lies behind their end (R4).
func TestHandedInStays(t *testing.T) {
	roomy := func(l ...api.Step) []api.Step {
		all := append(slices.Clone(l), api.Step{Op: 66, A: 6, B: 6}, api.Step{Op: 77, A: 7, B: 7})
		return all[:len(l)]
	}
	lists := [][]api.Step{
		roomy(gatesOf(9, 3, 9, 200, 3)...),
		roomy(sleepsOf(9, -3, maxTime)...),
		roomy(api.Step{Op: api.StepAdd, A: 5}, api.Step{Op: api.StepSkip, A: 2, B: 9}, api.Step{Op: api.StepFail}),
		roomy(good()...),
		roomy(bad()...),
		roomy(adds(most + 1)...),
		roomy(),
	}
	for _, l := range lists {
		was := slices.Clone(l[:cap(l)])
		x := api.Around{Key: api.Key{Name: "a"}, Run: 2, Cancelled: true}
		recipe.Check(l)
		recipe.Do(l, api.Cook{}, x)
		recipe.On(l, api.Cook{}, x)
		recipe.Alone(l, x)
		recipe.Text(l)
		for i := range recipe.Gates(l) {
			recipe.Gates(l)[i] = -1
		}
		recipe.Longest(l)
		if !slices.Equal(l[:cap(l)], was) {
			t.Errorf("%v has become %v", was, l[:cap(l)])
		}
	}
}

// spoil overwrites a list that was told, and the spare room behind its end.
func spoil[E any](list []E, with E) {
	for i := range list[:cap(list)] {
		list[:cap(list)][i] = with
	}
}

// TestToldIsNew: what is told shares nothing with another answer (R4).
func TestToldIsNew(t *testing.T) {
	const text = "gate 5 add 3 gate 5 gate 1 skip 0 2"
	want := []api.Step{{Op: api.StepGate, A: 5}, {Op: api.StepAdd, A: 3}, {Op: api.StepGate, A: 5}, {Op: api.StepGate, A: 1}, {Op: api.StepSkip, B: 2}}
	first, _, _ := recipe.Parse(text)
	second, _, _ := recipe.Parse(text)
	spoil(first, api.Step{Op: 77})
	third, _, _ := recipe.Parse(text)
	if !slices.Equal(second, want) || !slices.Equal(third, want) {
		t.Errorf("Parse: %v, %v", second, third)
	}
	gates := recipe.Gates(want)
	again := recipe.Gates(want)
	spoil(gates, -77)
	if !slices.Equal(again, []int{1, 5}) || !slices.Equal(recipe.Gates(want), []int{1, 5}) {
		t.Errorf("Gates: %v, %v", again, recipe.Gates(want))
	}
}
