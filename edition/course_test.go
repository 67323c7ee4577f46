package edition_test

import (
	"fmt"
	"math"
	"slices"
	"testing"

	"ostracon/api"
	"ostracon/edition"
)

// school has the signs 0 to 5 in items of one to three signs.
func school(t *testing.T) api.Volume {
	t.Helper()
	return volume(t, "periods 1\nA 1x1\nB 1x1\nC 1x1\nD 1x1\nE 1x1\nF 1x1\n",
		"three", "C-A-C-B-A", "two", "[D;C]-{1-1}", "none", "{1-9}", "more", "E-D#-C", "one", `A-A\-A/1`, "empty", "")
}

func lesson(item int, signs ...int) api.Lesson { return api.Lesson{Item: item, Signs: signs} }

// P12.8
func TestCourse(t *testing.T) {
	v := school(t)
	for _, c := range []struct {
		known []int
		most  int
		want  []api.Lesson
	}{
		{nil, 9, []api.Lesson{lesson(2), lesson(5), lesson(4, 0), lesson(0, 2, 1), lesson(1, 3), lesson(3, 4)}},
		{nil, 1, []api.Lesson{lesson(2), lesson(5), lesson(4, 0), lesson(0, 2), lesson(0, 1), lesson(1, 3), lesson(3, 4)}},
		{[]int{5}, 2, []api.Lesson{lesson(2), lesson(5), lesson(4, 0), lesson(0, 2, 1), lesson(1, 3), lesson(3, 4)}},
		{[]int{2}, 9, []api.Lesson{lesson(2), lesson(5), lesson(1, 3), lesson(3, 4), lesson(4, 0), lesson(0, 1)}},
		{[]int{3, 4}, 9, []api.Lesson{lesson(2), lesson(5), lesson(1, 2), lesson(3), lesson(4, 0), lesson(0, 1)}},
		{[]int{1, 2, 3}, 200, []api.Lesson{lesson(1), lesson(2), lesson(5), lesson(0, 0), lesson(4), lesson(3, 4)}},
		{[]int{0, 1, 2, 3, 4, 5}, 1, []api.Lesson{lesson(0), lesson(1), lesson(2), lesson(3), lesson(4), lesson(5)}},
	} {
		l, e := edition.Course(v, c.known, c.most)
		expect(t, fmt.Sprint("Course with ", c.known, c.most), l, e, c.want)
	}
	l, e := edition.Course(example(t), nil, 2)
	expect(t, "Course", l, e, []api.Lesson{lesson(1, 1), lesson(0, 0, 2)})
	l, e = edition.Course(volume(t, exampleList), []int{0}, 2)
	expect(t, "Course without items", l, e, nil)
	l, e = edition.Course(volume(t, "periods 1\n", "a", "{1-1}"), nil, 1)
	expect(t, "Course without signs", l, e, []api.Lesson{lesson(0)})
}

// P12.8: lessons of most signs each.
func TestLessons(t *testing.T) {
	list, text := "periods 1\n", ""
	for i := range 7 {
		list += fmt.Sprintf("S%d 1x1\n", i)
		text += fmt.Sprintf("-S%d", 6-i)
	}
	v := volume(t, list, "a", text[1:])
	for most, want := range map[int][]api.Lesson{
		1:   {lesson(0, 6), lesson(0, 5), lesson(0, 4), lesson(0, 3), lesson(0, 2), lesson(0, 1), lesson(0, 0)},
		3:   {lesson(0, 6, 5, 4), lesson(0, 3, 2, 1), lesson(0, 0)},
		6:   {lesson(0, 6, 5, 4, 3, 2, 1), lesson(0, 0)},
		7:   {lesson(0, 6, 5, 4, 3, 2, 1, 0)},
		8:   {lesson(0, 6, 5, 4, 3, 2, 1, 0)},
		200: {lesson(0, 6, 5, 4, 3, 2, 1, 0)},
	} {
		l, e := edition.Course(v, nil, most)
		expect(t, fmt.Sprint("Course of ", most), l, e, want)
	}
	l, e := edition.Course(v, []int{1, 4}, 2)
	expect(t, "Course", l, e, []api.Lesson{lesson(0, 6, 5), lesson(0, 3, 2), lesson(0, 0)})
}

// P12.8
func TestDrill(t *testing.T) {
	v := school(t)
	for _, c := range []struct{ known, want []int }{
		{nil, []int{2, 5}}, {[]int{0}, []int{2, 4, 5}}, {[]int{2, 3}, []int{1, 2, 5}}, {[]int{0, 1, 2}, []int{0, 2, 4, 5}}, {[]int{2, 3, 4}, []int{1, 2, 3, 5}}, {[]int{5}, []int{2, 5}}, {[]int{0, 1, 2, 3, 4, 5}, []int{0, 1, 2, 3, 4, 5}}, {[]int{0, 1, 3, 4, 5}, []int{2, 4, 5}},
	} {
		items, e := edition.Drill(v, c.known)
		expect(t, fmt.Sprint("Drill with ", c.known), items, e, c.want)
	}
	items, e := edition.Drill(volume(t, exampleList), []int{2})
	expect(t, "Drill without items", items, e, nil)
}

// P12.8: signs that cannot be known, and lessons that cannot be.
func TestCourseErrors(t *testing.T) {
	v := school(t)
	for _, known := range [][]int{{-1}, {6}, {0, 6}, {-1, 0}, {0, 0}, {5, 5}, {1, 0}, {0, 2, 1}, {0, 1, 2, 3, 4, 5, 5}, {0, 1, 2, 3, 4, 5, 6}, {5, 4, 3, 2, 1, 0}, {math.MaxInt}, {math.MinInt, 0}, {3, 3, 4}} {
		items, e := edition.Drill(v, known)
		expectError(t, fmt.Sprint("Drill with ", known), items, e, api.ErrArg)
		for _, most := range []int{1, 0} {
			l, e := edition.Course(v, known, most)
			expectError(t, fmt.Sprint("Course with ", known), l, e, api.ErrArg)
		}
	}
	for _, most := range []int{0, -1, api.MaxSigns + 1, math.MaxInt, math.MinInt} {
		l, e := edition.Course(v, []int{1}, most)
		expectError(t, fmt.Sprint("Course of ", most), l, e, api.ErrArg)
		l, e = edition.Course(volume(t, exampleList), nil, most)
		expectError(t, fmt.Sprint("Course of ", most), l, e, api.ErrArg)
	}
	items, e := edition.Drill(volume(t, "periods 1\n"), []int{0})
	expectError(t, "Drill without signs", items, e, api.ErrArg)
	items, e = edition.Drill(broken(), []int{1, 0})
	expectError(t, "Drill", items, e, api.ErrDepth)
	l, e := edition.Course(broken(), []int{1, 0}, 0)
	expectError(t, "Course", l, e, api.ErrDepth)
}

// newAsTold are the signs of an item that are not known, in order of their first
// places.
func newAsTold(t *testing.T, v api.Volume, item int, known []int) []int {
	t.Helper()
	var fresh []int
	for _, m := range marks(t, v, item) {
		if m.Sign >= 0 && !slices.Contains(known, m.Sign) && !slices.Contains(fresh, m.Sign) {
			fresh = append(fresh, m.Sign)
		}
	}
	return fresh
}

// courseAsTold are the lessons of a volume, for somebody who knows some signs.
func courseAsTold(t *testing.T, v api.Volume, known []int, most int) []api.Lesson {
	t.Helper()
	known = slices.Clone(known)
	var lessons []api.Lesson
	done := make([]bool, len(v.Items))
	for range v.Items {
		next := -1
		for item := range v.Items {
			if !done[item] && (next < 0 || len(newAsTold(t, v, item, known)) < len(newAsTold(t, v, next, known))) {
				next = item
			}
		}
		done[next] = true
		fresh := newAsTold(t, v, next, known)
		known = append(known, fresh...)
		if len(fresh) == 0 {
			lessons = append(lessons, lesson(next))
		}
		for part := range slices.Chunk(fresh, most) {
			lessons = append(lessons, lesson(next, part...))
		}
	}
	return lessons
}

// P12.8
func TestCourseAsTold(t *testing.T) {
	d := dice(60)
	for range 1500 {
		v := d.volume(7)
		known, most := d.known(v.List), 1+d.below(4)
		l, e := edition.Course(v, known, most)
		expect(t, "Course", l, e, courseAsTold(t, v, known, most))
		var want []int
		for item := range v.Items {
			if len(newAsTold(t, v, item, known)) == 0 {
				want = append(want, item)
			}
		}
		items, e := edition.Drill(v, known)
		expect(t, "Drill", items, e, want)
		if t.Failed() {
			t.Fatalf("%v, %v, %d", v, known, most)
		}
	}
}
