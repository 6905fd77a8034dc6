package server

import (
	"strings"

	"casement/api"
	"casement/geom"
)

// Do does what a client, or the manager, asks.
func (s *Server) Do(actor int, q api.Request) (int, api.Errno) {
	switch {
	case s.windows() == nil:
		return 0, api.ErrNil
	case !s.acts(actor) || q.Kind < api.ReqCreate || q.Kind > api.ReqSave:
		return 0, api.ErrArg
	}
	id, e := s.answer(actor, q)
	s.keepFocus()
	return id, e
}

// acts tells whether there is such an actor. A client needs but a number.
func (s *Server) acts(actor int) bool {
	if actor == manager {
		return s.managed
	}
	return isClient(actor)
}

func isClient(actor int) bool { return actor > manager }

func (s *Server) answer(actor int, q api.Request) (int, api.Errno) {
	switch q.Kind {
	case api.ReqCreate:
		return s.create(actor, q.Other, q.Rect)
	case api.ReqFocus, api.ReqSave, api.ReqReparent:
		return 0, s.manage(actor, q)
	}
	return 0, s.change(actor, q)
}

// create makes a window. A client's lie in the root, or in its own.
func (s *Server) create(actor, parent int, r api.Rect) (int, api.Errno) {
	maker, there := s.Owner(parent)
	if isClient(actor) && there && maker != actor {
		return 0, api.ErrRefuse
	}
	id, e := s.tree.Create(parent, r)
	if e == api.OK {
		s.makers[id] = actor
	}
	return id, e
}

// manage does what the manager alone may ask.
func (s *Server) manage(actor int, q api.Request) api.Errno {
	switch {
	case isClient(actor):
		return api.ErrRefuse
	case !s.has(q.Win):
		return api.ErrNone
	}
	switch q.Kind {
	case api.ReqReparent:
		return s.tree.Reparent(q.Win, q.Other, api.Point{X: q.Rect.X, Y: q.Rect.Y})
	case api.ReqSave:
		return s.save(q.Win, q.Other != 0)
	}
	return s.setFocus(q.Win)
}

func (s *Server) has(id int) bool {
	_, ok := s.tree.Get(id)
	return ok
}

// save notes whether a window is to be there when the manager is not.
func (s *Server) save(id int, on bool) api.Errno {
	switch {
	case id == root || s.isOf(id, manager):
		return api.ErrArg
	case on:
		s.saved[id] = struct{}{}
	default:
		delete(s.saved, id)
	}
	return api.OK
}

// setFocus takes the root, where no window is to have the focus.
func (s *Server) setFocus(id int) api.Errno {
	switch {
	case id == root:
		s.focus = noFocus
	case !s.tree.Viewable(id):
		return api.ErrState
	default:
		s.focus = id
	}
	return api.OK
}

// change does what is asked of one window: by a client, of its own alone.
func (s *Server) change(actor int, q api.Request) api.Errno {
	switch {
	case !s.has(q.Win):
		return api.ErrNone
	case q.Win == root:
		return api.ErrArg
	case isClient(actor) && !s.isOf(q.Win, actor):
		return api.ErrRefuse
	}
	switch q.Kind {
	case api.ReqDestroy:
		return s.destroy(q.Win)
	case api.ReqProp:
		return s.setProp(actor, q.Win, q.Prop)
	}
	if isClient(actor) && s.managed && s.foreign(q.Win) {
		return s.askManager(q)
	}
	return s.carryOut(q)
}

// foreign tells whether a window stands in another actor's, or in the root.
func (s *Server) foreign(id int) bool {
	w, _ := s.tree.Get(id)
	return w.Parent == root || !s.isOf(w.Parent, s.makers[id])
}

// destroy ends a window, and all in it. What it was is looked up ahead of forgetting it.
func (s *Server) destroy(id int) api.Errno {
	ended, e := s.tree.Destroy(id)
	for _, id := range ended {
		if isClient(s.makers[id]) {
			s.tell(api.Event{Kind: api.EvDestroyed, Win: id})
		}
		s.props.Drop(id)
		delete(s.saved, id)
		delete(s.makers, id)
	}
	return e
}

func (s *Server) setProp(actor, id int, p api.Prop) api.Errno {
	e := s.props.Set(id, p)
	if e == api.OK && isClient(actor) {
		s.tell(api.Event{Kind: api.EvProp, Win: id, Name: strings.Clone(p.Name)}) // what is handed in is not kept
	}
	return e
}

// askManager tells the manager what a client asks, and leaves it to do it. Hiding alone is not waited with.
func (s *Server) askManager(q api.Request) api.Errno {
	switch q.Kind {
	case api.ReqMap:
		s.tell(api.Event{Kind: api.EvMapRequest, Win: q.Win})
	case api.ReqUnmap:
		s.tell(api.Event{Kind: api.EvUnmapped, Win: q.Win})
		return s.carryOut(q)
	case api.ReqMove:
		if !geom.Right(q.Rect) {
			return api.ErrRect
		}
		s.tell(api.Event{Kind: api.EvMoveRequest, Win: q.Win, Rect: q.Rect})
	default: // the order is the manager's
		return api.ErrRefuse
	}
	return api.OK
}

// carryOut does at once what is asked.
func (s *Server) carryOut(q api.Request) api.Errno {
	switch q.Kind {
	case api.ReqMap:
		return s.tree.Map(q.Win, true)
	case api.ReqUnmap:
		return s.tree.Map(q.Win, false)
	case api.ReqMove:
		return s.tree.Configure(q.Win, q.Rect)
	case api.ReqRaise:
		return s.tree.Raise(q.Win)
	}
	return s.tree.Lower(q.Win)
}
