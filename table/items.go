package table

import (
	"math"

	"ogham/api"
)

// items makes the items of an enumerated type.
func (k *maker) items(i int, n api.Node) api.Errno {
	root := min(max(n.Root, 0), len(n.Items))
	list := make([]api.Item, len(n.Items))
	for j, x := range n.Items {
		list[j] = api.Item{Name: x.Name, Number: x.Number}
	}
	numberRoot(list[:root], n.Items[:root])
	if !numberMore(list, n.Items, root) {
		return api.ErrBound
	}
	if twice(list) || !ascending(list[root:]) {
		return api.ErrTwice
	}
	t := &k.types[i]
	t.Items, t.Root, t.More = list, root, n.More
	return api.OK
}

// numberRoot gives the Root items without a written number the smallest ones from 0 on that are free.
func numberRoot(list, written []api.Item) {
	taken := map[int64]int{}
	for j, x := range written {
		if x.Has {
			taken[x.Number] = j
		}
	}
	next := int64(0)
	for j, x := range written {
		if x.Has {
			continue
		}
		for {
			if _, ok := taken[next]; !ok {
				break
			}
			next++
		}
		list[j].Number = next
		next++
	}
}

// numberMore gives the items after the Root without a written number one more than the greatest number ahead, and reports whether there is one.
func numberMore(list, written []api.Item, root int) bool {
	most := int64(-1) // of no items: the first number is 0
	for j := range list {
		if j >= root && !written[j].Has {
			if most == math.MaxInt64 {
				return false
			}
			list[j].Number = most + 1
		}
		if j == 0 || list[j].Number > most {
			most = list[j].Number
		}
	}
	return true
}

// twice reports whether two names or two numbers are equal.
func twice(list []api.Item) bool {
	names, numbers := map[string]int{}, map[int64]int{}
	for j, x := range list {
		names[x.Name] = j
		numbers[x.Number] = j
	}
	return len(names) < len(list) || len(numbers) < len(list)
}

func ascending(list []api.Item) bool {
	for j := 1; j < len(list); j++ {
		if list[j].Number <= list[j-1].Number {
			return false
		}
	}
	return true
}
