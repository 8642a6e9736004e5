package tests

import (
	"runtime/debug"
	"testing"

	"loop.example/g00017/impl"
)

// chained asks for a chain of variables, each bound to what the next one gives.
func chained(count int, next func(id int64) impl.Type) (a, b impl.Type) {
	a, b = typeCon("T"), typeCon("T")
	for id := range int64(count) {
		a.Args, b.Args = append(a.Args, typeVar(id)), append(b.Args, next(id))
	}
	return a, b
}

func TestLongChainsOfVariables(t *testing.T) {
	const count = impl.MaxNodes - 1
	for name, next := range map[string]func(int64) impl.Type{
		"up":      func(id int64) impl.Type { return typeVar(id + 1) },
		"down":    func(id int64) impl.Type { return typeVar(max(id-1, 0)) },
		"all":     func(int64) impl.Type { return typeVar(0) },
		"greater": func(int64) impl.Type { return typeVar(count) },
		"mixed":   func(id int64) impl.Type { return typeVar((id*7919 + 13) % (count + 1)) },
	} {
		a, b := chained(count, next)
		got := impl.Unify(a, b)
		for _, bind := range got.Binds {
			if bind.Type.Kind != impl.TyVar || bind.Type.Id >= bind.Id || bind.Type.Id != 0 && name != "mixed" {
				t.Errorf("%s: %d is %s", name, bind.Id, typeText(bind.Type))
			}
		}
		if one := impl.Apply(got.Binds, a); got.Code != 0 || one.Kind == 0 || !impl.SameType(one, impl.Apply(got.Binds, b)) {
			t.Errorf("%s: code %d", name, got.Code)
		}
	}
}

// A long way down that the walk does not see is seen at the end, and does not need a deep stack.
func TestLongChainsOfTypes(t *testing.T) {
	defer debug.SetMaxStack(debug.SetMaxStack(smallStack))
	const count = impl.MaxNodes/2 - 1
	for _, row := range []struct {
		name string
		next func(int64) impl.Type
		want int64
	}{
		{"up", func(id int64) impl.Type { return typeCon("[]", typeVar(id+1)) }, 4},
		{"down", func(id int64) impl.Type { return typeCon("[]", typeVar((id+count)%(count+1))) }, 4},
		{"round", func(id int64) impl.Type { return typeCon("[]", typeVar((id+1)%count)) }, 4},
		{"apart", func(id int64) impl.Type { return typeCon("[]", typeVar(count+id)) }, 0},
	} {
		a, b := chained(count, row.next)
		got := impl.Unify(a, b)
		if got.Code != row.want || len(got.Binds) != count && row.want == 0 {
			t.Errorf("%s: code %d", row.name, got.Code)
		}
	}
}

// Many variables against one large type: what is made one is not gone through again and again.
func TestManyLargePairs(t *testing.T) {
	const half = impl.MaxNodes/2 - 4
	large, twin := wideType(half/2, typeVar(1)), wideType(half/2, typeVar(2))
	a, b := typeCon("T", typeVar(3), typeVar(4)), typeCon("T", large, twin)
	for range half {
		a.Args, b.Args = append(a.Args, typeVar(3)), append(b.Args, typeVar(4))
	}
	if got := impl.Unify(a, b); got.Code != 4 {
		t.Errorf("code %d", got.Code)
	}
	a.Args[len(a.Args)-1], b.Args[len(b.Args)-1] = typeCon("Int"), typeCon("Char")
	if got := impl.Unify(a, b); got.Code != 1 {
		t.Errorf("code %d", got.Code)
	}
	a, b = typeCon("T", typeVar(3)), typeCon("T", wideType(half, typeVar(1)))
	for id := range int64(half) {
		a.Args, b.Args = append(a.Args, typeVar(10+id)), append(b.Args, typeVar(3))
	}
	if got := impl.Unify(a, b); got.Code != 4 {
		t.Errorf("code %d", got.Code)
	}
}

func TestManyBindsAndKept(t *testing.T) {
	const count = impl.MaxNodes - 1
	one := typeCon("T")
	var binds []impl.Bind
	var keep []int64
	var preds []impl.Pred
	for id := range int64(count) {
		one.Args = append(one.Args, typeVar(id))
		binds = append(binds, impl.Bind{Id: id, Type: typeVar(id + 1)}, impl.Bind{Id: id, Type: typeVar(0)})
		preds = append(preds, impl.Pred{Class: "C", Id: id}, impl.Pred{Class: "C", Id: id})
		if id%2 == 0 {
			keep = append(keep, id)
		}
	}
	for i, arg := range impl.Apply(binds, one).Args {
		if arg.Id != int64(i)+1 {
			t.Fatalf("%d: %s", i, typeText(arg))
		}
	}
	s := impl.Close(one, preds, keep)
	if s.Count != count/2 || len(s.Preds) != count/2 || s.Type.Args[3].Id != 1 || s.Preds[1].Id != 1 || s.Type.Args[4].Id != 4 {
		t.Errorf("%d places, %d preds", s.Count, len(s.Preds))
	}
	if opened := impl.Open(s, 7); opened.Args[3].Id != 8 || opened.Args[4].Id != 4 {
		t.Error("opened")
	}
}
