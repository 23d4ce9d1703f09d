package impl

import "slices"

const (
	MaxNodes     = 16
	MaxObjs      = 16
	MaxFields    = 5
	MaxGlobals   = 8
	MaxListeners = 4
	MaxId        = 1000000000
)

type Field struct {
	Name string
	Obj  int64
}

type Listener struct {
	Type    string
	Capture bool
	Once    bool
	Stop    int64
	Name    string
}

type Node struct {
	Id        int64
	Tag       string
	Parent    int64
	Kids      []int64
	Wrapper   int64
	Listeners []Listener
}

type Obj struct {
	Id     int64
	Node   int64
	Fields []Field
}

type Heap struct {
	Next    int64
	Doc     int64
	Nodes   []Node
	Objs    []Obj
	Globals []Field
}

// heapIndex has a heap's nodes and objects by Id, since all that is asked of
// one is asked of those that it names. It is only looked up: whoever goes
// through all of them goes through the heap's lists, which have an order.
type heapIndex struct {
	nodes map[int64]Node
	objs  map[int64]Obj
}

func HeapOk(h Heap) bool {
	_, ok := rightIndex(h)
	return ok
}

// rightIndex answers false when h is not right, so that whoever has an index
// from here may follow any Id in it.
func rightIndex(h Heap) (heapIndex, bool) {
	x, ok := indexOf(h)
	if !ok {
		return heapIndex{}, false
	}
	for _, n := range h.Nodes {
		if !x.nodeOk(n) {
			return heapIndex{}, false
		}
	}
	for _, o := range h.Objs {
		if !x.objOk(o) {
			return heapIndex{}, false
		}
	}
	if !x.fieldsOk(h.Globals, MaxGlobals) || !x.rootOk(h.Doc) {
		return heapIndex{}, false
	}
	return x, true
}

// indexOf looks at how many there are and at their Ids alone.
func indexOf(h Heap) (heapIndex, bool) {
	if h.Next < 1 || h.Next > MaxId || len(h.Nodes) > MaxNodes || len(h.Objs) > MaxObjs {
		return heapIndex{}, false
	}
	x := heapIndex{nodes: map[int64]Node{}, objs: map[int64]Obj{}}
	last := int64(0)
	for _, n := range h.Nodes {
		if n.Id <= last || n.Id >= h.Next {
			return heapIndex{}, false
		}
		x.nodes[n.Id] = n
		last = n.Id
	}
	last = 0
	for _, o := range h.Objs {
		_, twice := x.nodes[o.Id]
		if twice || o.Id <= last || o.Id >= h.Next {
			return heapIndex{}, false
		}
		x.objs[o.Id] = o
		last = o.Id
	}
	return x, true
}

func (x heapIndex) nodeOk(n Node) bool {
	return NameOk(n.Tag) && x.kidsOk(n) && x.parentOk(n) && x.endsAbove(n) && x.wrapperOk(n) && listenersOk(n.Listeners)
}

func (x heapIndex) kidsOk(n Node) bool {
	for i, id := range n.Kids {
		kid, ok := x.nodes[id]
		if !ok || kid.Parent != n.Id || slices.Contains(n.Kids[:i], id) {
			return false
		}
	}
	return true
}

func (x heapIndex) parentOk(n Node) bool {
	if n.Parent == 0 {
		return true
	}
	parent, ok := x.nodes[n.Parent]
	return ok && slices.Contains(parent.Kids, n.Id)
}

// endsAbove goes up no more often than there are nodes: a way that has not
// ended by then has come back to one that it was at.
func (x heapIndex) endsAbove(n Node) bool {
	for range len(x.nodes) {
		if n.Parent == 0 {
			return true
		}
		parent, ok := x.nodes[n.Parent]
		if !ok {
			return false
		}
		n = parent
	}
	return false
}

func (x heapIndex) wrapperOk(n Node) bool {
	if n.Wrapper == 0 {
		return true
	}
	o, ok := x.objs[n.Wrapper]
	return ok && o.Node == n.Id
}

func listenersOk(l []Listener) bool {
	if len(l) > MaxListeners {
		return false
	}
	for _, one := range l {
		if !listenerOk(one) {
			return false
		}
	}
	return true
}

func listenerOk(l Listener) bool {
	return NameOk(l.Type) && NameOk(l.Name) && 0 <= l.Stop && l.Stop <= 2
}

func (x heapIndex) objOk(o Obj) bool {
	return x.wrappedOk(o) && x.fieldsOk(o.Fields, MaxFields)
}

func (x heapIndex) wrappedOk(o Obj) bool {
	if o.Node == 0 {
		return true
	}
	n, ok := x.nodes[o.Node]
	return ok && n.Wrapper == o.Id
}

func (x heapIndex) fieldsOk(fields []Field, most int) bool {
	if len(fields) > most {
		return false
	}
	last := "" // sorts ahead of every name
	for _, f := range fields {
		_, ok := x.objs[f.Obj]
		if !ok || !NameOk(f.Name) || f.Name <= last {
			return false
		}
		last = f.Name
	}
	return true
}

func (x heapIndex) rootOk(id int64) bool {
	n, ok := x.nodes[id]
	return ok && n.Parent == 0
}

func HeapNew() Heap {
	return Heap{Next: 2, Doc: 1, Nodes: []Node{{Id: 1, Tag: "doc"}}}
}

func GlobalOf(h Heap, name string) (int64, bool) {
	o, ok := objOf(h, name)
	return o.Id, ok
}

func NodeOf(h Heap, name string) (int64, bool) {
	o, ok := objOf(h, name)
	return o.Node, ok && o.Node != 0
}

func FieldOf(h Heap, name string, field string) (int64, bool) {
	o, ok := objOf(h, name)
	if !ok {
		return 0, false
	}
	return heldBy(o.Fields, field)
}

// objOf answers the zero object where there is none, or h is not right.
func objOf(h Heap, name string) (Obj, bool) {
	x, ok := rightIndex(h)
	if !ok {
		return Obj{}, false
	}
	id, ok := heldBy(h.Globals, name)
	if !ok {
		return Obj{}, false
	}
	return x.objs[id], true
}

func heldBy(fields []Field, name string) (int64, bool) {
	for _, f := range fields {
		if f.Name == name {
			return f.Obj, true
		}
	}
	return 0, false
}

// copyOf shares no list with h, so that it may be written into and handed out.
func copyOf(h Heap) Heap {
	h.Nodes = listCopy(h.Nodes)
	for i := range h.Nodes {
		h.Nodes[i].Kids = listCopy(h.Nodes[i].Kids)
		h.Nodes[i].Listeners = listCopy(h.Nodes[i].Listeners)
	}
	h.Objs = listCopy(h.Objs)
	for i := range h.Objs {
		h.Objs[i].Fields = listCopy(h.Objs[i].Fields)
	}
	h.Globals = listCopy(h.Globals)
	return h
}

// listCopy, not slices.Clone: that keeps the address of a list without elements.
func listCopy[T any](l []T) []T { return append([]T(nil), l...) }
