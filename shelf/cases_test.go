package shelf_test

import (
	"math"
	"math/rand"
	"slices"
	"sync"

	"duodecimo/api"
)

// someClasses are so many classes; names have full stops and digits, too.
func someClasses(r *rand.Rand, many int) []string {
	names := []string{"hist", "art", "a", "a.", "a.1", "a.1.2", "b2", "z..9", "x1.10a", "abcdefghijklmnop"}
	r.Shuffle(len(names), func(i, k int) { names[i], names[k] = names[k], names[i] })
	return names[:many]
}

// someMark is a mark of one of so many classes; many are nearly the same.
func someMark(r *rand.Rand, classes int) api.SfMark {
	return mark(r.Intn(classes), oneOf(r, 1, 2, 9, 10, 11, 99, 100, api.MaxSfNumber), oneOf(r, "", "", "a", "b", "z", "aa", "ab", "zz"))
}

// newMark is a mark that none of some books has.
func newMark(r *rand.Rand, classes int, books []api.SfBook) api.SfMark {
	for {
		m := someMark(r, classes)
		if !slices.ContainsFunc(books, func(b api.SfBook) bool { return b.Mark == m }) {
			return m
		}
	}
}

// someBook is a book that stands nowhere yet. Many are as high as others.
func someBook(r *rand.Rand, m api.SfMark) api.SfBook {
	wide := oneOf(r, 20, 30, 1+r.Intn(60))
	high := oneOf(r, 200, 200, 200, 200, 250, 100+r.Intn(300))
	return book(m, wide, high, 1+r.Intn(oneOf(r, 5, 20, api.MaxSfHeavy)), 0)
}

// boardFor is a shelf on which books fit that are so wide and high together.
func boardFor(r *rand.Rand, wide, high int) api.SfShelf {
	wide = max(1, wide+oneOf(r, 0, r.Intn(20), r.Intn(100), r.Intn(100), 30*r.Intn(5)))
	high = max(1, high+oneOf(r, 0, 0, r.Intn(60), 200))
	return board(oneOf(r, 0, 5, 10, 25, r.Intn(api.MaxSfAway+1)), oneOf(r, 0, 0, 3, 10, r.Intn(api.MaxSfAway+1)), wide, high)
}

// size says how many classes, shelves and books there are.
type size struct{ classes, shelves, books int }

// someSize is the size of some room.
func someSize(r *rand.Rand) size {
	return size{1 + r.Intn(api.MaxSfClasses), 1 + r.Intn(api.MaxSfShelves), r.Intn(api.MaxSfBooks + 1)}
}

// most is the size of the largest rooms.
func most() size { return size{api.MaxSfClasses, api.MaxSfShelves, api.MaxSfBooks} }

// someRoom is a room of a size, in which so many books have the marks of others than if they were in order.
func someRoom(r *rand.Rand, s size, exchanged int) api.SfRoom {
	x := api.SfRoom{Classes: someClasses(r, s.classes)}
	var on []int
	for range s.books {
		x.Books = append(x.Books, someBook(r, newMark(r, s.classes, x.Books)))
		on = append(on, r.Intn(s.shelves))
	}
	slices.Sort(on)
	x = standing(x, taken(x.Books, sorted(x.Books)), on)
	for i := range s.shelves {
		wide, high := 0, oneOf(r, 100, 200, 200)
		for _, b := range x.Books {
			if b.Shelf == i {
				wide, high = wide+b.Wide, max(high, b.High)
			}
		}
		x.Shelves = append(x.Shelves, boardFor(r, wide, high))
	}
	for range exchanged {
		if s.books > 0 {
			i, k := r.Intn(s.books), r.Intn(s.books)
			x.Books[i].Mark, x.Books[k].Mark = x.Books[k].Mark, x.Books[i].Mark
		}
	}
	return x
}

// someFurther is a further book, on whatever shelf.
func someFurther(r *rand.Rand, x api.SfRoom) api.SfBook {
	b := someBook(r, newMark(r, len(x.Classes), x.Books))
	if r.Intn(2) == 0 {
		b.Wide = oneOf(r, 1, 5, 30, 60, 90)
	}
	return on(b, oneOf(r, 0, -1, api.MaxSfShelves, math.MinInt, math.MaxInt))
}

// someWalk is a walk for some books of a room.
func someWalk(r *rand.Rand, x api.SfRoom) walk {
	most := min(len(x.Books), api.MaxSfList)
	w := walk{r.Perm(len(x.Books))[:oneOf(r, most, r.Intn(most+1))], 1 + r.Intn(api.MaxSfHeavy)}
	heaviest, all := 1, 1
	for _, i := range w.books {
		heaviest, all = max(heaviest, x.Books[i].Heavy), all+x.Books[i].Heavy
	}
	w.carry = oneOf(r, w.carry, heaviest, max(1, heaviest-1), min(api.MaxSfHeavy, heaviest+r.Intn(all)), min(api.MaxSfHeavy, heaviest+r.Intn(all)))
	return w
}

// asked is a room with questions about it.
func asked(r *rand.Rand, x api.SfRoom) question {
	q := question{SfRoom: x}
	for range 4 {
		q.further = append(q.further, someFurther(r, x))
		q.walks = append(q.walks, someWalk(r, x))
	}
	return q
}

// tall is a room in which each of so many books fits just on a shelf of its own, and the marks are those of another order.
func tall(order ...int) api.SfRoom {
	x := plain()
	for i, n := range order {
		x.Shelves = append(x.Shelves, board(i, i, 10, 100+i))
		x.Books = append(x.Books, book(mark(0, n+1, ""), 10, 100+i, 1, i))
	}
	return x
}

// huge is a room with the largest numbers that there are.
func huge() api.SfRoom {
	x := api.SfRoom{Classes: []string{"a"}}
	for i := range api.MaxSfShelves {
		x.Shelves = append(x.Shelves, board(api.MaxSfAway, api.MaxSfAway, api.MaxSfSize, api.MaxSfSize))
		x.Books = append(x.Books, book(mark(0, api.MaxSfNumber, suffixes()[700+i%3]), api.MaxSfSize, api.MaxSfSize, api.MaxSfHeavy, i))
	}
	x.Books[3].Mark = mark(0, 1, "")
	return x
}

// specialRooms are rooms at the limits, and in which books cannot be arranged.
func specialRooms() []api.SfRoom {
	backwards := full()
	for i := range backwards.Books {
		backwards.Books[i].Mark.Number = api.MaxSfBooks - i
	}
	last := cloned(full())
	for i := range last.Books {
		last.Books[i].Shelf = 3
	}
	return []api.SfRoom{
		example(), exchanged(), full(), backwards, last, huge(), plain(1), plain(1, 1, 1, 1), plain(2000, 1, 2000),
		tall(0, 1), tall(1, 0), tall(0, 2, 1), tall(2, 0, 1), tall(0, 1, 2, 3), tall(3, 2, 1, 0), tall(0, 1, 3, 2),
		holding(plain(1, 1), thin(2, 0), thin(1, 1)), holding(plain(2, 2, 2), thin(1, 1), thin(2, 1)), holding(plain(1, 1, 1, 1), thin(1, 0), thin(2, 1), thin(3, 3)),
		holding(plain(3, 3), thin(4, 0), thin(5, 0), thin(1, 1), thin(2, 1), thin(3, 1)),
	}
}

// cases are rooms without an error and questions about them, always the same ones.
var cases = sync.OnceValue(func() []question {
	r := seed(9)
	var list []question
	for _, x := range specialRooms() {
		list = append(list, asked(r, x))
	}
	for i := range 3000 {
		s := someSize(r)
		switch i % 10 {
		case 0, 1:
			s = most()
		case 2:
			s.books = api.MaxSfBooks - 1
		}
		list = append(list, asked(r, someRoom(r, s, oneOf(r, 0, 0, 0, 1, 2, 10))))
	}
	return list
})

// answers are what is told of each of the cases, asked once for all tests.
var answers = sync.OnceValue(func() []told {
	return inAll(len(cases()), func(i int) told { return tell(cases()[i]) })
})

// asks goes through all cases, and what is told of each.
func asks(visit func(q question, x told)) {
	for i, q := range cases() {
		visit(q, answers()[i])
	}
}
