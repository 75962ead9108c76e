package swing

import (
	"boscage/api"
	"boscage/ground"
	"boscage/limbo"
	"boscage/plan"
)

// What a step of a change comes to: there is more to do, or the change is placed, or its commit failed, or no slot was
// free; in the last two cases the nodes that it had allocated are freed.
const (
	Working = iota
	Placed
	Lost
	Full
)

// Site is where a change takes place: births has the Births of the nodes that were read, birth is that of the New
// nodes, death the Death of the Old ones. Commit puts the root of the plan in its place, by one access, if it still can.
type Site struct {
	Ground       *ground.Ground
	Thread       int
	Births       map[api.Ref]int
	Birth, Death int
	Commit       func(root api.Ref) bool
}

// Change puts a plan in place, by one access in each step.
type Change struct {
	site  Site
	plan  plan.Plan
	to    []api.Ref
	stamp int
	next  func() int
}

// NewChange returns a change that is not yet begun.
func NewChange(site Site, p plan.Plan) *Change {
	c := &Change{site: site, plan: p}
	c.build()
	return c
}

// Step executes one step.
func (c *Change) Step() int {
	return c.next()
}

// build goes on with the next New node, or with the commit when there are all.
func (c *Change) build() int {
	c.next = c.take
	if len(c.to) == len(c.plan.New) {
		c.next = c.commit
	}
	return Working
}

// take allocates a New node.
func (c *Change) take() int {
	n, _ := plan.Fill(c.plan.New[len(c.to)], c.to)
	n.Birth = c.site.Birth
	r, code := c.site.Ground.M.Take(n)
	if code != api.OK {
		return c.giveUp(Full)
	}
	c.to = append(c.to, r)
	return c.build()
}

// commit puts the root of the plan in its place.
func (c *Change) commit() int {
	root, _ := plan.Ref(c.plan.Root, c.to)
	if !c.site.Commit(root) {
		return c.giveUp(Lost)
	}
	c.next = c.loadEpoch
	return Working
}

// giveUp frees what was allocated, and then comes to an end.
func (c *Change) giveUp(end int) int {
	if len(c.to) == 0 {
		return end
	}
	c.next = func() int {
		last := len(c.to) - 1
		c.site.Ground.M.Free(c.to[last])
		c.to = c.to[:last]
		return c.giveUp(end)
	}
	return Working
}

// loadEpoch loads the epoch in which the Old nodes are retired.
func (c *Change) loadEpoch() int {
	w, _ := c.site.Ground.M.Load(epochCell)
	c.stamp = w.Tag
	c.next = c.retire
	return Working
}

// retire pushes the Old nodes to the list of the thread.
func (c *Change) retire() int {
	g := limbo.Group{Stamp: c.stamp, Death: c.site.Death}
	for _, r := range c.plan.Old {
		g.L = append(g.L, limbo.Item{Ref: r, Birth: c.site.Births[r]})
	}
	c.site.Ground.X.Push(c.site.Thread, g)
	return Placed
}
