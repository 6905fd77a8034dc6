/- A display, and what is asked of it, as plain functions (pure). -/
import Derived.Test.YtfdgpbdppenhmaaGreatSrA
import Derived.Test.YtfdgpbdppenhmaaGreatSrB
namespace Go.Proofs.YtfdgpbdppenhmaaGreat
open Go.RowKit Go.Shelf Go.Maps
/-- Who made a window, and whether it is saved. -/
structure Md where
  win : Int
  own : Int
  sav : Bool
structure Ev where
  kind : Int
  win : Int
  x : Int
  y : Int
  a : Int
  e : Int
  name : ByteArray
/-- A display. -/
structure Xs where
  R : RT
  L : List Win
  H : List Pp.Hd
  M : List Md
  F : Int
  G : Bool
  E : List Ev
/-- A request. -/
structure Rq where
  kind : Int
  win : Int
  other : Int
  x : Int
  y : Int
  a : Int
  e : Int
  p : Pp.Pr
def noText : ByteArray := ⟨#[]⟩
abbrev Xs.start (x y a e : Int) : Xs := ⟨⟨x, y, a, e, 0⟩, [], [], [], 0, true, []⟩
def findM (i : Int) (M : List Md) : Option Md := M.find? (fun m => decide (m.win = i))
def ownM (i : Int) (M : List Md) : Int := match findM i M with
  | some m => m.own
  | none => -1
def savM (i : Int) (M : List Md) : Bool := match findM i M with
  | some m => m.sav
  | none => false
def setSav (i : Int) (on : Bool) (M : List Md) : List Md := M.map (fun m => if m.win = i then ⟨m.win, m.own, on⟩ else m)
def dropM (i : Int) (M : List Md) : List Md := M.filter (fun m => decide (m.win ≠ i))
def Xs.tell (X : Xs) (e : Ev) : Xs := if X.G = true ∧ X.E.length < 4096 then { X with E := X.E ++ [e] } else X
def Xs.look (X : Xs) : Xs := if X.F ≠ 0 ∧ viewL X.R X.L X.F = false then { X with F := 0 } else X
/-- One of those that end is forgotten. -/
def Xs.forget (X : Xs) (i : Int) : Xs :=
  let Y := if ownM i X.M ≠ 0 then X.tell ⟨4, i, 0, 0, 0, 0, noText⟩ else X
  { Y with H := Pp.dropH i Y.H, M := dropM i Y.M }
def Xs.destroy (X : Xs) (i : Int) : Xs :=
  if askL X.L i ≠ 0 then X else (goneI X.R X.L i).foldl Xs.forget { X with L := dropAll (goneI X.R X.L i) X.L }
def Xs.save (X : Xs) (i : Int) (on : Bool) : Int × Xs := if ownM i X.M ≤ 0 then (1, X) else (0, { X with M := setSav i on X.M })
/-- Is it for the manager to say? -/
def Xs.asks (X : Xs) (actor : Int) (i : Int) : Bool := decide (actor ≠ 0) && (X.G && (decide ((winL X.R X.L i).par = 0) || decide (ownM (winL X.R X.L i).par X.M ≠ ownM i X.M)))
def Xs.own (X : Xs) (actor : Int) (q : Rq) : Int × Xs :=
  if q.kind = 2 then (0, X.destroy q.win)
  else if q.kind = 10 then
    (let X' : Xs := if Pp.eH X.H q.win q.p = 0 then { X with H := Pp.sH X.H q.win q.p } else X
     (Pp.eH X.H q.win q.p, if Pp.eH X.H q.win q.p = 0 ∧ actor ≠ 0 then X'.tell ⟨5, q.win, 0, 0, 0, 0, q.p.name⟩ else X'))
  else if q.kind = 4 then
    (let X' := if X.asks actor q.win = true then X.tell ⟨3, q.win, 0, 0, 0, 0, noText⟩ else X
     ((tMap false q.win X.L).2, { X' with L := (tMap false q.win X.L).1 }))
  else if X.asks actor q.win = true then
    (if q.kind = 3 then (0, X.tell ⟨1, q.win, 0, 0, 0, 0, noText⟩)
     else if q.kind = 5 then (if rightB q.x q.y q.a q.e = false then (10, X) else (0, X.tell ⟨2, q.win, q.x, q.y, q.a, q.e, noText⟩))
     else (80, X))
  else if q.kind = 3 then ((tMap true q.win X.L).2, { X with L := (tMap true q.win X.L).1 })
  else if q.kind = 5 then ((tConf q.win q.x q.y q.a q.e X.L).2, { X with L := (tConf q.win q.x q.y q.a q.e X.L).1 })
  else if q.kind = 6 then ((tRaise q.win X.L).2, { X with L := (tRaise q.win X.L).1 })
  else ((tLower q.win X.L).2, { X with L := (tLower q.win X.L).1 })
def Xs.change (X : Xs) (actor : Int) (q : Rq) : Int × Xs :=
  if thereL X.R X.L q.win = false then (6, X) else if q.win = 0 then (1, X) else if actor ≠ 0 ∧ ownM q.win X.M ≠ actor then (80, X) else X.own actor q
def Xs.manage (X : Xs) (actor : Int) (q : Rq) : Int × Xs :=
  if actor ≠ 0 then (80, X) else if thereL X.R X.L q.win = false then (6, X)
  else if q.kind = 8 then ((tRepar X.R q.win q.other q.x q.y X.L).2, { X with L := (tRepar X.R q.win q.other q.x q.y X.L).1 })
  else if q.kind = 11 then X.save q.win (decide (q.other ≠ 0))
  else if q.win ≠ 0 ∧ viewL X.R X.L q.win = false then (8, X) else (0, { X with F := q.win })
/-- Who asks, and what, is such a thing at all. -/
def Xs.wrong (X : Xs) (actor kind : Int) : Bool := decide (actor < 0) || (decide (actor = 0) && !X.G) || decide (kind < 1) || decide (11 < kind)
def Xs.create (X : Xs) (actor : Int) (q : Rq) : Int × Int × Xs :=
  if isL X.L q.other = true ∧ actor ≠ 0 ∧ q.other ≠ 0 ∧ ownM q.other X.M ≠ actor then (0, 80, X)
  else
    (let c := tCreate X.R q.other q.x q.y q.a q.e X.L
     (c.2.2.1, c.2.2.2, if c.2.2.2 = 0 then { X with R := c.1, L := c.2.1, M := X.M ++ [⟨c.2.2.1, actor, false⟩] } else X))
def isManage (kind : Int) : Bool := kind == 9 || (kind == 11 || kind == 8)
def Xs.other (X : Xs) (actor : Int) (q : Rq) : Int × Xs := if isManage q.kind = true then X.manage actor q else X.change actor q
def Xs.do (X : Xs) (actor : Int) (q : Rq) : Int × Int × Xs :=
  if X.wrong actor q.kind = true then (0, 1, X)
  else if q.kind = 1 then X.create actor q
  else (0, (X.other actor q).1, (X.other actor q).2.look)
/-- Where a window that is put back stands. -/
def landR (R : RT) (L : List Win) (i : Int) : Rc := shiftR (-32768) (-32768) (winL R L i).w (winL R L i).h (IntKind.i64.wrap (absXL R L i + 32768)) (IntKind.i64.wrap (absYL R L i + 32768))
def Xs.back (X : Xs) (m : Md) : Xs := if m.sav = true then { X with L := (tRepar X.R m.win 0 (landR X.R X.L m.win).x (landR X.R X.L m.win).y X.L).1, M := setSav m.win false X.M } else X
def Xs.end (X : Xs) (m : Md) : Xs := if m.own = 0 ∧ thereL X.R X.L m.win = true then X.destroy m.win else X
def Xs.stop (X : Xs) : Int × Xs :=
  if X.G = false then (8, X)
  else (0, (X.M.foldl Xs.end (X.M.foldl Xs.back { X with G := false, E := [] })).look)
def Xs.taken (X : Xs) : List Ev × Xs := (X.E, { X with E := [] })
end Go.Proofs.YtfdgpbdppenhmaaGreat
