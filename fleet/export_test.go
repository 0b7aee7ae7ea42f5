package fleet

// Wrong is what First looks for. As no event of a world is broken, tests lay reports before it that no script has.
var Wrong = wrong
