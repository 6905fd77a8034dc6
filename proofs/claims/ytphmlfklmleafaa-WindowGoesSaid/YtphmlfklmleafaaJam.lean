/- seen, walked. -/
import Derived.Test.YtphmlfklmleafaaJal
import Derived.Test.YtphmlfklmleafaaJaj
section
namespace Go.Proofs.Ytphmlfklmleafaa
open Go.RowKit Go.Shelf Go.Maps
attribute [local go_sem] Oper.semAt_some
def wOf (nd : Int → Option Nd) (i : Int) : Int := match nd i with
  | some d => d.win.w
  | none => 0
def hOf (nd : Int → Option Nd) (i : Int) : Int := match nd i with
  | some d => d.win.h
  | none => 0
/-- Is a window to be seen at a place? -/
def hitB (nd : Int → Option Nd) (px py : Int) (k : Int) : Bool := onOf nd k && hasB (xOf nd k) (yOf nd k) (wOf nd k) (hOf nd k) px py
/-- What is seen at a place of a window. -/
def seenB (nd : Int → Option Nd) : Nat → Int → Int → Int → Int
  | 0, i, _, _ => i
  | n + 1, i, px, py => match nd i with
    | none => i
    | some d => match d.kids.reverse.find? (hitB nd px py) with
      | none => d.win.id
      | some k => seenB nd n k (IntKind.i64.wrap (px - xOf nd k)) (IntKind.i64.wrap (py - yOf nd k))
section
variable {w : World} {t : Nat} {l : Lay} {nd : Int → Option Nd} {made : Int} {cnt : Nat}
theorem ints_at {n₀ : Nat} {v : Value} {xs : List Int} (h : w.ownsRow 0 3 1 v xs.length (intsV xs)) (hn : w.heap.size ≤ n₀) : IntsAt n₀ w v xs := by
  have h0 := h
  obtain ⟨hlen, h1⟩ := h
  rcases h1 with ⟨rfl, hn'⟩ | ⟨g, cap, cur, rfl, -, hg, hnc, hcm, hcs, ht⟩
  · exact .inl ⟨rfl, List.eq_nil_of_length_eq_zero hn'⟩
  · refine .inr ⟨g, cap, rfl, Nat.lt_of_lt_of_le (Array.getElem?_eq_some_iff.1 hg).1 hn, fun j hj => ?_⟩
    refine (World.ownsRow.cellAt h0 j (by omega)).trans ?_
    rw [List.getElem?_map, List.getElem?_eq_getElem hj]
    rfl
end
/-- What the loop keeps. -/
def SeI (nd : Int → Option Nd) (px py : Int) (ks : List Int) (w : World) (t : Nat) (sv : Value) (pre : List { p : Nat × Int // p.2 ∈ ks }) (W : World) : Prop :=
  ((∀ x ∈ pre, hitB nd px py x.1.2 = false) ∧ W.cell? ⟨w.heap.size, 0, none⟩ = some (treeP t) ∧ (W.cell? ⟨w.heap.size + 1, 0, none⟩ = some (.int .i64 px) ∧ W.cell? ⟨w.heap.size + 1, 1, none⟩ = some (.int .i64 py)) ∧
    (W.cell? ⟨w.heap.size + 1 + 1, 0, none⟩ = some (.int .i64 0) ∧ W.frozen? ⟨w.heap.size + 1 + 1, 0, none⟩ = false) ∧ W.cell? ⟨w.heap.size + 1 + 1 + 1, 0, none⟩ = some sv) ∧ Below w.heap.size w W
/-- What it leaves with. -/
def SeX (nd : Int → Option Nd) (px py : Int) (ks : List Int) (w : World) (n : Nat) (c : Code) (pre : List { p : Nat × Int // p.2 ∈ ks }) (W : World) : Prop :=
  (c = .ret ∧ ∃ ini last, pre = ini ++ [last] ∧ (∀ x ∈ ini, hitB nd px py x.1.2 = false) ∧ hitB nd px py last.1.2 = true ∧
    W.cell? ⟨w.heap.size + 1 + 1, 0, none⟩ = some (.int .i64 (seenB nd n last.1.2 (IntKind.i64.wrap (px - xOf nd last.1.2)) (IntKind.i64.wrap (py - yOf nd last.1.2))))) ∧ Below w.heap.size w W
theorem seI_own (nd : Int → Option Nd) (px py : Int) (ks : List Int) (w : World) (t : Nat) (sv : Value) {B : Nat} (hB : w.heap.size ≤ B) : OwnFrom B (SeI nd px py ks w t sv) :=
  OwnFrom.and (Own.from (fun _ _ _ _ hs hg hr => ⟨hs.1, cell_kept hs.2.1 hg hr, ⟨cell_kept hs.2.2.1.1 hg hr, cell_kept hs.2.2.1.2 hg hr⟩, ⟨cell_kept hs.2.2.2.1.1 hg hr, (frozen_kept hs.2.2.2.1.1 hg hr).trans hs.2.2.2.1.2⟩, cell_kept hs.2.2.2.2 hg hr⟩) _) (ownFrom_below (Nat.le_refl _) hB)
theorem seX_own (nd : Int → Option Nd) (px py : Int) (ks : List Int) (w : World) (n : Nat) (c : Code) {B : Nat} (hB : w.heap.size ≤ B) : OwnFrom B (SeX nd px py ks w n c) :=
  OwnFrom.and (Own.from (fun _ _ _ _ hs hg hr => by
    obtain ⟨hc, ini, last, e1, e2, e3, e4⟩ := hs
    exact ⟨hc, ini, last, e1, e2, e3, cell_kept e4 hg hr⟩) _) (ownFrom_below (Nat.le_refl _) hB)
theorem back_list (ks : List Int) : ∃ xs : List { p : Nat × Int // p.2 ∈ ks }, xs.length = ks.length ∧ (∀ (k : Nat) x, xs[k]? = some x → x.1 = backP ks k) ∧ xs.map (fun x => x.1.2) = ks.reverse := by
  have hm : ∀ j ∈ List.range ks.length, (backP ks j).2 ∈ ks := fun j hj => by
    have hj' : j < ks.length := by simpa using hj
    unfold backP
    rw [List.getElem?_eq_getElem (by omega)]
    exact List.getElem_mem _
  refine ⟨(List.range ks.length).attach.map fun j => ⟨backP ks j.1, hm j.1 j.2⟩, by simp, fun k x hx => ?_, ?_⟩
  · rw [List.getElem?_map] at hx
    obtain ⟨j, hj, rfl⟩ := Option.map_eq_some_iff.1 hx
    have hk := (List.getElem?_eq_some_iff.1 hj).1
    simp at hk
    have : j.1 = k := by
      rw [List.getElem?_eq_getElem (by simpa using hk)] at hj
      injection hj with hj
      rw [← hj]; simp
    show backP ks j.1 = backP ks k
    rw [this]
  · apply List.ext_getElem
    · simp
    · intro i h1 h2
      simp at h1
      simp only [List.getElem_map, List.getElem_attach, List.getElem_range, List.getElem_reverse, backP]
      rw [List.getElem?_eq_getElem (by omega)]
      rfl
theorem find_pre {ks : List Int} {f : Int → Bool} {A B : List Int} {k : Int} (h : A ++ [k] ++ B = ks) (hA : ∀ x ∈ A, f x = false) (hk : f k = true) : ks.find? f = some k := by
  rw [← h, List.append_assoc, List.find?_append, List.find?_eq_none.2 (fun x hx => by simp [hA x hx])]
  simp [hk]
theorem keeps_below {B : Nat} {W W' : World} (h : Below W.heap.size W W') : KeepsFrom B W W' := (KeepsOthers.of_grownBy (only_of_below h none) (fun j o e => by cases e)).from B
section
variable {t : Nat} {l : Lay} {nd : Int → Option Nd} {made : Int} {cnt : Nat}
set_option maxRecDepth 100000 in
set_option maxHeartbeats 16000000 in
theorem seen_c (hw : Wide nd) (hks : ∀ j dj, nd j = some dj → dj.kids.length ≤ 4096) : ∀ (n : Nat) (i px py : Int) (b : Nat) (w : World), TreeH w t l nd made cnt → Tall nd n i → l.nb i = some b →
    Calls Try.prog 44 #[treeP t, .pointer (some ⟨b, 0, none⟩), .agg #[.int .i64 px, .int .i64 py]] w fun e w' => e = .returned (.int .i64 (seenB nd n i px py)) ∧ Below w.heap.size w w'
  | 0, _, _, _, _, _, _, hT, _ => hT.elim
  | n + 1, i, px, py, b, w, h, hT, hb => by
    obtain ⟨d, hd, hkids⟩ := hT
    have hrow := (h.node i b d hb hd).2
    obtain ⟨p, c, hkv, -⟩ := row_reads hrow
    obtain ⟨W3, hW3⟩ : ∃ W3, W3 = ((w.alloc (.cells #[treeP t] 27)).alloc (.cells #[.int .i64 px, .int .i64 py] 26)).alloc (.cells #[.int .i64 0] 3) := ⟨_, rfl⟩
    have hB3 : Below w.heap.size w W3 := by rw [hW3]; exact (((Below.refl _ w).alloc (Nat.le_refl _) _).alloc (by simp) _).alloc (by simp; omega) _
    have k7 := ((h.next hB3).cells hb hd).1.2.2.2.2.2.2.2
    rw [hkv, hW3] at k7
    obtain ⟨W4, hW4⟩ : ∃ W4, W4 = W3.alloc (.cells #[.slice p d.kids.length c] 47) := ⟨_, rfl⟩
    have hz3 : W3.heap.size = w.heap.size + 1 + 1 + 1 := by rw [hW3]; simp
    have hz4 : W4.heap.size = w.heap.size + 1 + 1 + 1 + 1 := by rw [hW4]; simp [hz3]
    have hB4 : Below w.heap.size w W4 := by rw [hW4]; exact hB3.alloc hB3.size _
    have b0 : Blk W4 w.heap.size 27 #[treeP t] := by rw [hW4, hW3]; exact (((Blk.new w _ _).alloc _).alloc _).alloc _
    have b1 : Blk W4 (w.heap.size + 1) 26 #[.int .i64 px, .int .i64 py] := by
      rw [hW4, hW3]
      have := Blk.new (w.alloc (.cells #[treeP t] 27)) 26 #[.int .i64 px, .int .i64 py]
      rw [World.size_alloc] at this
      exact (this.alloc _).alloc _
    have b2 : Blk W4 (w.heap.size + 1 + 1) 3 #[.int .i64 0] := by
      rw [hW4, hW3]
      have := Blk.new ((w.alloc (.cells #[treeP t] 27)).alloc (.cells #[.int .i64 px, .int .i64 py] 26)) 3 #[.int .i64 0]
      rw [World.size_alloc, World.size_alloc] at this
      exact this.alloc _
    have b3 : Blk W4 (w.heap.size + 1 + 1 + 1) 47 #[.slice p d.kids.length c] := by
      rw [hW4, ← hz3]
      exact Blk.new _ _ _
    have hI0 : SeI nd px py d.kids w t (.slice p d.kids.length c) [] W4 := ⟨⟨(fun x hx => by cases hx), b0.at_ (i := 0) rfl, ⟨b1.at_ (i := 0) rfl, b1.at_ (i := 1) rfl⟩, ⟨b2.at_ (i := 0) rfl, b2.frozen 0⟩, b3.at_ (i := 0) rfl⟩, hB4⟩
    have hIA : IntsAt W4.heap.size W4 (.slice p d.kids.length c) d.kids := by
      have h4 := ((h.next hB4).node i b d hb hd).2
      rw [hkv] at h4
      exact ints_at h4 (Nat.le_refl _)
    obtain ⟨xs, hxl, hxe, hxm⟩ := back_list d.kids
    have hst := back_stops (fun x : { p : Nat × Int // p.2 ∈ d.kids } => x.1) xs Fence.wide 2 trivial rfl (by omega) (w.heap.size + 1 + 1 + 1) W4.heap.size (.slice p d.kids.length c) d.kids (Nat.le_trans (hks i d hd) (by omega)) hxl hxe W4 (by omega) (Nat.le_refl _) (by omega) (b3.at_ (i := 0) rfl) hIA
    obtain ⟨m, hm⟩ : ∃ m, m = d.kids.length := ⟨_, rfl⟩
    have HST := Lib.hid hst
    have HI0 := Lib.hid hI0
    have HD := Lib.hid hd
    have HH := Lib.hid h
    have HKD := Lib.hid hkids
    have HBB := Lib.hid hb
    have HX := Lib.hid (And.intro hxl (And.intro hxe hxm))
    have HM := Lib.hid hm
    have HZ4 := Lib.hid hz4
    have HEX : Hid (W4 = (((w.alloc (.cells #[treeP t] 27)).alloc (.cells #[.int .i64 px, .int .i64 py] 26)).alloc (.cells #[.int .i64 0] 3)).alloc (.cells #[.slice p m c] 47)) := Lib.hid (by rw [hW4, hW3, hm])
    have HN := Lib.hid (show ∀ W, SeI nd px py d.kids w t (.slice p m c) xs W → seenB nd (n + 1) i px py = d.win.id ∧ W.cell? ⟨b, 0, none⟩ = some (.int .i64 d.win.id) from fun W hS => by
      refine ⟨?_, ((h.next hS.2).cells hb hd).1.1⟩
      simp only [seenB, hd]
      rw [List.find?_eq_none.2 (fun x hx => ?_)]
      rw [← hxm] at hx
      obtain ⟨y, hy, rfl⟩ := List.mem_map.1 hx
      simp [hS.1.1 y hy])
    have HP := Lib.hid (show ∀ pre W, pre <+: xs → SeX nd px py d.kids w n .ret pre W → W.cell? ⟨w.heap.size + 1 + 1, 0, none⟩ = some (.int .i64 (seenB nd (n + 1) i px py)) from fun pre W hpre hS => by
      obtain ⟨⟨_, ini, last, e1, e2, e3, e4⟩, _⟩ := hS
      rw [e4]
      congr 2
      simp only [seenB, hd]
      obtain ⟨rest, hrest⟩ := hpre
      have hr : (ini.map (fun x => x.1.2)) ++ [last.1.2] ++ rest.map (fun x => x.1.2) = d.kids.reverse := by
        rw [← hxm, ← hrest, e1]; simp
      rw [find_pre hr (fun x hx => by
        obtain ⟨y, hy, rfl⟩ := List.mem_map.1 hx
        exact e2 y hy) e3])
    rw [← hm] at k7 HST HI0
    have hW34 := hW3
    clear hd hkv hW3 hW4 hz3 hz4 hI0 hIA hxl hxe hxm hst hm hrow hB3 hB4 b0 b1 b2 b3 hkids hb h hW34
    refine (callsIn_wide (n := 3)).1 ?_
    refine callsIn_of_wp_marks Try.func44 rfl trivial ?_ rfl
    simp only [Try.ntmps44, List.size_toArray, List.length_cons, List.length_nil, Nat.reduceAdd, Nat.reduceSub, Array.replicate_succ, Array.replicate_zero, List.push_toArray, List.append_toArray, List.nil_append, List.cons_append]
    gi_wp2_with (refine ⟨trivial, ?_⟩; gi_at_call 61; refine (back_in Fence.wide _ trivial rfl _ _ _ _).mono ?_; rintro e w' ⟨rfl, rfl⟩)
    rw [← HEX.out]
    have hBz : w.heap.size ≤ W4.heap.size := by have := HZ4.out; omega
    refine wpIn_rangeFunc_ownG (α := { p : Nat × Int // p.2 ∈ d.kids }) rfl (by omega) (gf := BACK) (lb := #[.pointer (some ⟨w.heap.size + 1 + 1 + 1, 0, none⟩)]) (by simp [Act.eval]) trivial (enters_of Try.func69 (by kernel_rfl) rfl)
      HST.out belowK_t (belowK_b (Nat.le_refl _)) (Below.refl _ _) (fun _ => rfl)
      (SeI nd px py d.kids w t (.slice p m c)) (SeX nd px py d.kids w n) (seI_own nd px py d.kids w t _ hBz) (fun cc => seX_own nd px py d.kids w n cc hBz) HI0.out
      (fun x => { tmps := #[treeP t, .pointer (some ⟨b, 0, none⟩), .agg #[.int .i64 px, .int .i64 py], .pointer (some ⟨w.heap.size, 0, none⟩), undef, .pointer (some ⟨w.heap.size + 1, 0, none⟩), .pointer (some ⟨w.heap.size + 1 + 1, 0, none⟩), undef, .int .i64 x.1.2, undef, .pointer (some ⟨b, 0, none⟩), .pointer (some ⟨b, 0, none⟩), .pointer (some ⟨b, 7, none⟩), .slice p m c, .func (.func BACK) #[] #[.pointer (some ⟨w.heap.size + 1 + 1 + 1, 0, none⟩)], .int .i64 (x.1.1 : Int), .int .i64 x.1.2, undef, undef, undef, undef, undef, undef, undef, undef, undef, undef, undef, undef, undef, undef, undef, undef, undef, undef, undef, undef, undef, undef, undef, undef, undef, undef, undef, undef, undef, undef, undef, undef, undef, undef, undef, undef, undef, undef, undef, undef, undef, undef, undef, undef, undef, undef, undef], defers := [] }) ?assign ?body ?done ?stop
    case assign =>
      intro l x W K hK
      gi_wp2
      exact hK
    case body =>
      rintro ll pre x W hS _
      obtain ⟨⟨hp, q0, ⟨q1, q2⟩, ⟨q3, q3f⟩, q4⟩, hBW⟩ := id hS
      have hz : W4.heap.size ≤ W.heap.size := by have := World.block_lt_of_cell? _ _ q4; dsimp only at this; have := HZ4.out; omega
      have hTW := HH.out.next hBW
      obtain ⟨n', rfl⟩ : ∃ n', n = n' + 1 := by
        cases n with
        | zero => exact (HKD.out _ x.2).elim
        | succ n' => exact ⟨n', rfl⟩
      obtain ⟨dk, hdk, -⟩ := id (HKD.out _ x.2)
      obtain ⟨bk, hbk⟩ := hTW.block hdk
      obtain ⟨⟨c0, -⟩, -⟩ := hTW.tree.c2
      have e0 := hTW.look_some (hw _ _ hdk).1 hbk
      obtain ⟨⟨-, -, m2, m3, m4, m5, m6, -⟩, -⟩ := hTW.cells hbk hdk
      have HHIT := Lib.hid (show hitB nd px py x.1.2 = (dk.win.on && hasB dk.win.x dk.win.y dk.win.w dk.win.h px py) by simp [hitB, onOf, xOf, yOf, wOf, hOf, hdk])
      have HNX := Lib.hid (fun (W' : World) (hb' : Below W.heap.size W W') (hh : hitB nd px py x.1.2 = false) => (show KeepsFrom W4.heap.size W W' ∧ Below W4.heap.size W W' ∧ SeI nd px py d.kids w t (.slice p m c) (pre ++ [x]) W' from
        ⟨keeps_below hb', hb'.mono hz, ⟨⟨fun y hy => by
          rcases List.mem_append.1 hy with hy | hy
          · exact hp y hy
          · rw [List.mem_singleton.1 hy]; exact hh, (hb'.cell (p := ⟨w.heap.size, 0, none⟩) (World.block_lt_of_cell? _ _ q0)).trans q0, ⟨(hb'.cell (p := ⟨w.heap.size + 1, 0, none⟩) (World.block_lt_of_cell? _ _ q1)).trans q1, (hb'.cell (p := ⟨w.heap.size + 1, 1, none⟩) (World.block_lt_of_cell? _ _ q2)).trans q2⟩,
            ⟨(hb'.cell (p := ⟨w.heap.size + 1 + 1, 0, none⟩) (World.block_lt_of_cell? _ _ q3)).trans q3, (hb'.frozen (p := ⟨w.heap.size + 1 + 1, 0, none⟩) (World.block_lt_of_cell? _ _ q3)).trans q3f⟩, (hb'.cell (p := ⟨w.heap.size + 1 + 1 + 1, 0, none⟩) (World.block_lt_of_cell? _ _ q4)).trans q4⟩, hb'.on hBW hBW.size⟩⟩))
      have HTW := Lib.hid hTW
      have HBK := Lib.hid (And.intro hdk hbk)
      have HPP := Lib.hid hp
      have HBW := Lib.hid hBW
      have HHD := Lib.hid (HKD.out _ x.2)
      have HQ := Lib.hid (And.intro q0 (And.intro q1 (And.intro q2 (And.intro q3 q3f))))
      clear hS hTW hdk hbk hp hBW hz hBz k7
      cases hon : dk.win.on with
      | false =>
        rw [hon] at m6
        have HF := Lib.hid (show hitB nd px py x.1.2 = false by rw [HHIT.out, hon]; rfl)
        clear hon
        gi_wp2
        refine region_in (S := fun wx => (wx.cell? ⟨bk, 6, none⟩ = some (.bool false) ∧ wx.cell? ⟨bk, 2, none⟩ = some (.int .i64 dk.win.x) ∧ wx.cell? ⟨bk, 3, none⟩ = some (.int .i64 dk.win.y) ∧ wx.cell? ⟨bk, 4, none⟩ = some (.int .i64 dk.win.w) ∧ wx.cell? ⟨bk, 5, none⟩ = some (.int .i64 dk.win.h)) ∧ wx.cell? ⟨w.heap.size + 1, 0, none⟩ = some (.int .i64 px) ∧ wx.cell? ⟨w.heap.size + 1, 1, none⟩ = some (.int .i64 py)) (by kernel_rfl) (by kernel_rfl) (by exact ⟨⟨m6, m2, m3, m4, m5⟩, q1, q2⟩) (fun hHeld => ?_)
        refine wpAnyH_take (i := 0) (v := ?vf0) rfl (by kernel_rfl) (by kernel_rfl) (by kernel_rfl) (fun _ _ _ h => h) (Or.inl ⟨by kernel_rfl, ?yf0⟩) (by assumption) ?rf0
        case yf0 => (intro wq hSw; (try dsimp only at hSw); go_simp; (try with_reducible rfl))
        (try simp only [Act.put, List.getElem_toArray, List.getElem_cons_zero, List.setIfInBounds_toArray, List.set_cons_zero, List.set_cons_succ])
        refine wpAnyH_take (i := 1) (v := ?vf1) rfl (by kernel_rfl) (by kernel_rfl) (by kernel_rfl) (fun _ _ _ h => h) (Or.inl ⟨by kernel_rfl, ?yf1⟩) (by assumption) ?rf1
        case yf1 => (intro wq hSw; (try dsimp only at hSw); go_simp; (try with_reducible rfl))
        (try simp only [Act.put, List.getElem_toArray, List.getElem_cons_succ, List.getElem_cons_zero, List.setIfInBounds_toArray, List.set_cons_zero, List.set_cons_succ])
        refine wpAnyH_take (i := 2) (v := ?vf2) rfl (by kernel_rfl) (by kernel_rfl) (by kernel_rfl) (fun _ _ _ h => h) (Or.inl ⟨by kernel_rfl, ?yf2⟩) (by assumption) ?rf2
        case yf2 => (intro wq hSw; (try dsimp only at hSw); go_simp; (try with_reducible rfl))
        (try simp only [Act.put, List.getElem_toArray, List.getElem_cons_succ, List.getElem_cons_zero, List.setIfInBounds_toArray, List.set_cons_zero, List.set_cons_succ])
        refine wpAnyH_take (i := 3) (v := ?vf3) rfl (by kernel_rfl) (by kernel_rfl) (by kernel_rfl) (fun _ _ _ h => h) (Or.inl ⟨by kernel_rfl, ?yf3⟩) (by assumption) ?rf3
        case yf3 => (intro wq hSw; (try dsimp only at hSw); go_simp; (try with_reducible rfl))
        (try simp only [Act.put, List.getElem_toArray, List.getElem_cons_succ, List.getElem_cons_zero, List.setIfInBounds_toArray, List.set_cons_zero, List.set_cons_succ])
        refine wpAnyH_take (i := 4) (v := ?vf4) rfl (by kernel_rfl) (by kernel_rfl) (by kernel_rfl) (fun _ _ _ h => h) (Or.inl ⟨by kernel_rfl, ?yf4⟩) (by assumption) ?rf4
        case yf4 => (intro wq hSw; (try dsimp only at hSw); go_simp; (try with_reducible rfl))
        (try simp only [Act.put, List.getElem_toArray, List.getElem_cons_succ, List.getElem_cons_zero, List.setIfInBounds_toArray, List.set_cons_zero, List.set_cons_succ])
        refine wpAnyH_take (i := 5) (v := ?vf5) rfl (by kernel_rfl) (by kernel_rfl) (by kernel_rfl) (fun _ _ _ h => h) (Or.inl ⟨by kernel_rfl, ?yf5⟩) (by assumption) ?rf5
        case yf5 => (intro wq hSw; (try dsimp only at hSw); go_simp; (try with_reducible rfl))
        (try simp only [Act.put, List.getElem_toArray, List.getElem_cons_succ, List.getElem_cons_zero, List.setIfInBounds_toArray, List.set_cons_zero, List.set_cons_succ])
        refine wpAnyH_take (i := 6) (v := undef) rfl (by kernel_rfl) (by kernel_rfl) (by kernel_rfl) (fun _ _ _ h => h) (Or.inr ⟨by kernel_rfl, rfl⟩) (by assumption) ?_
        (try simp only [Act.put, List.getElem_toArray, List.getElem_cons_succ, List.getElem_cons_zero, List.setIfInBounds_toArray, List.set_cons_zero, List.set_cons_succ])
        refine wpAnyH_take (i := 7) (v := undef) rfl (by kernel_rfl) (by kernel_rfl) (by kernel_rfl) (fun _ _ _ h => h) (Or.inr ⟨by kernel_rfl, rfl⟩) (by assumption) ?_
        (try simp only [Act.put, List.getElem_toArray, List.getElem_cons_succ, List.getElem_cons_zero, List.setIfInBounds_toArray, List.set_cons_zero, List.set_cons_succ])
        refine wpAnyH_take (i := 8) (v := undef) rfl (by kernel_rfl) (by kernel_rfl) (by kernel_rfl) (fun _ _ _ h => h) (Or.inr ⟨by kernel_rfl, rfl⟩) (by assumption) ?_
        (try simp only [Act.put, List.getElem_toArray, List.getElem_cons_succ, List.getElem_cons_zero, List.setIfInBounds_toArray, List.set_cons_zero, List.set_cons_succ])
        refine wpAnyH_take (i := 9) (v := undef) rfl (by kernel_rfl) (by kernel_rfl) (by kernel_rfl) (fun _ _ _ h => h) (Or.inr ⟨by kernel_rfl, rfl⟩) (by assumption) ?_
        (try simp only [Act.put, List.getElem_toArray, List.getElem_cons_succ, List.getElem_cons_zero, List.setIfInBounds_toArray, List.set_cons_zero, List.set_cons_succ])
        refine wpAnyH_take (i := 10) (v := undef) rfl (by kernel_rfl) (by kernel_rfl) (by kernel_rfl) (fun _ _ _ h => h) (Or.inr ⟨by kernel_rfl, rfl⟩) (by assumption) ?_
        (try simp only [Act.put, List.getElem_toArray, List.getElem_cons_succ, List.getElem_cons_zero, List.setIfInBounds_toArray, List.set_cons_zero, List.set_cons_succ])
        refine wpAnyH_take (i := 11) (v := undef) rfl (by kernel_rfl) (by kernel_rfl) (by kernel_rfl) (fun _ _ _ h => h) (Or.inr ⟨by kernel_rfl, rfl⟩) (by assumption) ?_
        (try simp only [Act.put, List.getElem_toArray, List.getElem_cons_succ, List.getElem_cons_zero, List.setIfInBounds_toArray, List.set_cons_zero, List.set_cons_succ])
        refine wpAnyH_take (i := 12) (v := undef) rfl (by kernel_rfl) (by kernel_rfl) (by kernel_rfl) (fun _ _ _ h => h) (Or.inr ⟨by kernel_rfl, rfl⟩) (by assumption) ?_
        (try simp only [Act.put, List.getElem_toArray, List.getElem_cons_succ, List.getElem_cons_zero, List.setIfInBounds_toArray, List.set_cons_zero, List.set_cons_succ])
        refine wpAnyH_take (i := 13) (v := ?vf13) rfl (by kernel_rfl) (by kernel_rfl) (by kernel_rfl) (fun _ _ _ h => h) (Or.inl ⟨by kernel_rfl, ?yf13⟩) (by assumption) ?rf13
        case yf13 => (intro wq hSw; (try dsimp only at hSw); go_simp; (try with_reducible rfl))
        (try simp only [Act.put, List.getElem_toArray, List.getElem_cons_succ, List.getElem_cons_zero, List.setIfInBounds_toArray, List.set_cons_zero, List.set_cons_succ])
        refine wpAnyH_done (by kernel_rfl) ?_ _
        refine OnlyOn.normal ?_
        gi_wp2
        exact HNX.out _ ((Below.refl _ W).drew) HF.out
      | true =>
        rw [hon] at m6
        have HF := Lib.hid (show hitB nd px py x.1.2 = hasB dk.win.x dk.win.y dk.win.w dk.win.h px py by rw [HHIT.out, hon]; rfl)
        clear hon
        have HS1 := Lib.hid (fun (W1 : World) (hb1 : Below W.heap.size W W1) => (show (W1.cell? ⟨bk, 6, none⟩ = some (.bool true) ∧ W1.cell? ⟨bk, 2, none⟩ = some (.int .i64 dk.win.x) ∧ W1.cell? ⟨bk, 3, none⟩ = some (.int .i64 dk.win.y) ∧ W1.cell? ⟨bk, 4, none⟩ = some (.int .i64 dk.win.w) ∧ W1.cell? ⟨bk, 5, none⟩ = some (.int .i64 dk.win.h)) ∧ W1.cell? ⟨w.heap.size + 1, 0, none⟩ = some (.int .i64 px) ∧ W1.cell? ⟨w.heap.size + 1, 1, none⟩ = some (.int .i64 py) from by
          obtain ⟨c1, c2⟩ := bcell hb1
          have hl := World.block_lt_of_cell? _ _ m6
          have hl2 := World.block_lt_of_cell? _ _ q1
          exact ⟨⟨(c1 _ _ hl).trans m6, (c1 _ _ hl).trans m2, (c1 _ _ hl).trans m3, (c1 _ _ hl).trans m4, (c1 _ _ hl).trans m5⟩, (c1 _ _ hl2).trans q1, (c1 _ _ hl2).trans q2⟩))
        obtain ⟨hh, hhe⟩ : ∃ hh, hh = hasB dk.win.x dk.win.y dk.win.w dk.win.h px py := ⟨_, rfl⟩
        have HHA := Lib.hid (fun W1 => (show Calls Try.prog 62 #[.agg #[.int .i64 dk.win.x, .int .i64 dk.win.y, .int .i64 dk.win.w, .int .i64 dk.win.h], .agg #[.int .i64 px, .int .i64 py]] W1 fun e w' => e = .returned (.bool hh) ∧ Below W1.heap.size W1 w' from by rw [hhe]; exact has_c _ _ _ _ _ _ W1))
        rw [← hhe] at HF
        clear hhe
        gi_wp2
        refine region_in (S := fun wx => (wx.cell? ⟨bk, 6, none⟩ = some (.bool true) ∧ wx.cell? ⟨bk, 2, none⟩ = some (.int .i64 dk.win.x) ∧ wx.cell? ⟨bk, 3, none⟩ = some (.int .i64 dk.win.y) ∧ wx.cell? ⟨bk, 4, none⟩ = some (.int .i64 dk.win.w) ∧ wx.cell? ⟨bk, 5, none⟩ = some (.int .i64 dk.win.h)) ∧ wx.cell? ⟨w.heap.size + 1, 0, none⟩ = some (.int .i64 px) ∧ wx.cell? ⟨w.heap.size + 1, 1, none⟩ = some (.int .i64 py)) (by kernel_rfl) (by kernel_rfl) (by exact ⟨⟨m6, m2, m3, m4, m5⟩, q1, q2⟩) (fun hHeld => ?_)
        refine wpAnyH_take (i := 0) (v := ?vt0) rfl (by kernel_rfl) (by kernel_rfl) (by kernel_rfl) (fun _ _ _ h => h) (Or.inl ⟨by kernel_rfl, ?yt0⟩) (by assumption) ?rt0
        case yt0 => (intro wq hSw; (try dsimp only at hSw); go_simp; (try with_reducible rfl))
        (try simp only [Act.put, List.getElem_toArray, List.getElem_cons_zero, List.setIfInBounds_toArray, List.set_cons_zero, List.set_cons_succ])
        refine wpAnyH_take (i := 1) (v := ?vt1) rfl (by kernel_rfl) (by kernel_rfl) (by kernel_rfl) (fun _ _ _ h => h) (Or.inl ⟨by kernel_rfl, ?yt1⟩) (by assumption) ?rt1
        case yt1 => (intro wq hSw; (try dsimp only at hSw); go_simp; (try with_reducible rfl))
        (try simp only [Act.put, List.getElem_toArray, List.getElem_cons_succ, List.getElem_cons_zero, List.setIfInBounds_toArray, List.set_cons_zero, List.set_cons_succ])
        refine wpAnyH_take (i := 2) (v := ?vt2) rfl (by kernel_rfl) (by kernel_rfl) (by kernel_rfl) (fun _ _ _ h => h) (Or.inl ⟨by kernel_rfl, ?yt2⟩) (by assumption) ?rt2
        case yt2 => (intro wq hSw; (try dsimp only at hSw); go_simp; (try with_reducible rfl))
        (try simp only [Act.put, List.getElem_toArray, List.getElem_cons_succ, List.getElem_cons_zero, List.setIfInBounds_toArray, List.set_cons_zero, List.set_cons_succ])
        refine wpAnyH_take (i := 3) (v := ?vt3) rfl (by kernel_rfl) (by kernel_rfl) (by kernel_rfl) (fun _ _ _ h => h) (Or.inl ⟨by kernel_rfl, ?yt3⟩) (by assumption) ?rt3
        case yt3 => (intro wq hSw; (try dsimp only at hSw); go_simp; (try with_reducible rfl))
        (try simp only [Act.put, List.getElem_toArray, List.getElem_cons_succ, List.getElem_cons_zero, List.setIfInBounds_toArray, List.set_cons_zero, List.set_cons_succ])
        refine wpAnyH_take (i := 4) (v := ?vt4) rfl (by kernel_rfl) (by kernel_rfl) (by kernel_rfl) (fun _ _ _ h => h) (Or.inl ⟨by kernel_rfl, ?yt4⟩) (by assumption) ?rt4
        case yt4 => (intro wq hSw; (try dsimp only at hSw); go_simp; (try with_reducible rfl))
        (try simp only [Act.put, List.getElem_toArray, List.getElem_cons_succ, List.getElem_cons_zero, List.setIfInBounds_toArray, List.set_cons_zero, List.set_cons_succ])
        refine wpAnyH_take (i := 5) (v := ?vt5) rfl (by kernel_rfl) (by kernel_rfl) (by kernel_rfl) (fun _ _ _ h => h) (Or.inl ⟨by kernel_rfl, ?yt5⟩) (by assumption) ?rt5
        case yt5 => (intro wq hSw; (try dsimp only at hSw); go_simp; (try with_reducible rfl))
        (try simp only [Act.put, List.getElem_toArray, List.getElem_cons_succ, List.getElem_cons_zero, List.setIfInBounds_toArray, List.set_cons_zero, List.set_cons_succ])
        refine wpAnyH_take (i := 6) (v := ?vt6) rfl (by kernel_rfl) (by kernel_rfl) (by kernel_rfl) (fun _ _ _ h => h) (Or.inl ⟨by kernel_rfl, ?yt6⟩) (by assumption) ?rt6
        case yt6 => (intro wq hSw; (try dsimp only at hSw); go_simp; (try with_reducible rfl))
        (try simp only [Act.put, List.getElem_toArray, List.getElem_cons_succ, List.getElem_cons_zero, List.setIfInBounds_toArray, List.set_cons_zero, List.set_cons_succ])
        refine wpAnyH_take (i := 7) (v := ?vt7) rfl (by kernel_rfl) (by kernel_rfl) (by kernel_rfl) (fun _ _ _ h => h) (Or.inl ⟨by kernel_rfl, ?yt7⟩) (by assumption) ?rt7
        case yt7 => (intro wq hSw; (try dsimp only at hSw); go_simp; (try with_reducible rfl))
        (try simp only [Act.put, List.getElem_toArray, List.getElem_cons_succ, List.getElem_cons_zero, List.setIfInBounds_toArray, List.set_cons_zero, List.set_cons_succ])
        refine wpAnyH_take (i := 8) (v := ?vt8) rfl (by kernel_rfl) (by kernel_rfl) (by kernel_rfl) (fun _ _ _ h => h) (Or.inl ⟨by kernel_rfl, ?yt8⟩) (by assumption) ?rt8
        case yt8 => (intro wq hSw; (try dsimp only at hSw); go_simp; (try with_reducible rfl))
        (try simp only [Act.put, List.getElem_toArray, List.getElem_cons_succ, List.getElem_cons_zero, List.setIfInBounds_toArray, List.set_cons_zero, List.set_cons_succ])
        refine wpAnyH_take (i := 9) (v := ?vt9) rfl (by kernel_rfl) (by kernel_rfl) (by kernel_rfl) (fun _ _ _ h => h) (Or.inl ⟨by kernel_rfl, ?yt9⟩) (by assumption) ?rt9
        case yt9 => (intro wq hSw; (try dsimp only at hSw); go_simp; (try with_reducible rfl))
        (try simp only [Act.put, List.getElem_toArray, List.getElem_cons_succ, List.getElem_cons_zero, List.setIfInBounds_toArray, List.set_cons_zero, List.set_cons_succ])
        refine wpAnyH_take (i := 10) (v := ?vt10) rfl (by kernel_rfl) (by kernel_rfl) (by kernel_rfl) (fun _ _ _ h => h) (Or.inl ⟨by kernel_rfl, ?yt10⟩) (by assumption) ?rt10
        case yt10 => (intro wq hSw; (try dsimp only at hSw); go_simp; (try with_reducible rfl))
        (try simp only [Act.put, List.getElem_toArray, List.getElem_cons_succ, List.getElem_cons_zero, List.setIfInBounds_toArray, List.set_cons_zero, List.set_cons_succ])
        refine wpAnyH_take (i := 11) (v := ?vt11) rfl (by kernel_rfl) (by kernel_rfl) (by kernel_rfl) (fun _ _ _ h => h) (Or.inl ⟨by kernel_rfl, ?yt11⟩) (by assumption) ?rt11
        case yt11 => (intro wq hSw; (try dsimp only at hSw); go_simp; (try with_reducible rfl))
        (try simp only [Act.put, List.getElem_toArray, List.getElem_cons_succ, List.getElem_cons_zero, List.setIfInBounds_toArray, List.set_cons_zero, List.set_cons_succ])
        refine wpAnyH_ready (rs := [12]) (by kernel_rfl) (by simp) ?_
        refine AllReadyH.cons rfl (fun K hK => ?_) AllReadyH.nil
        go_simp
        refine (HHA.out _).mono ?_
        rintro e w1 ⟨rfl, hb0⟩; have hb1 : Below W.heap.size W w1 := ((Below.refl _ W).drew).trans hb0; clear hb0; have HB1 := Lib.hid hb1
        (try dsimp only)
        refine hK.out _ _ (by exact HS1.out _ hb1) (fun hHeld => ?_)
        clear hK K
        (try simp only [Act.put, List.getElem_toArray, List.getElem_cons_succ, List.getElem_cons_zero, List.setIfInBounds_toArray, List.set_cons_zero, List.set_cons_succ])
        refine wpAnyH_take (i := 13) (v := ?vt13) rfl (by kernel_rfl) (by kernel_rfl) (by kernel_rfl) (fun _ _ _ h => h) (Or.inl ⟨by kernel_rfl, ?yt13⟩) (by assumption) ?rt13
        case yt13 => (intro wq hSw; (try dsimp only at hSw); go_simp; (try with_reducible rfl))
        (try simp only [Act.put, List.getElem_toArray, List.getElem_cons_succ, List.getElem_cons_zero, List.setIfInBounds_toArray, List.set_cons_zero, List.set_cons_succ])
        refine wpAnyH_done (by kernel_rfl) ?_ _
        refine OnlyOn.normal ?_
        cases hh with
        | false =>
          gi_wp2
          exact HNX.out _ HB1.out HF.out
        | true =>
          clear hHeld m2 m3 m4 m5 m6 q0 q1 q2 q3 q3f q4 c0 e0
          have HT1 := Lib.hid (HTW.out.next HB1.out)
          have HK1 := Lib.hid (HT1.out.cells HBK.out.2 HBK.out.1).1
          have HR1 := Lib.hid (seen_c hw hks (n' + 1) x.1.2 (IntKind.i64.wrap (px - dk.win.x)) (IntKind.i64.wrap (py - dk.win.y)) bk w1.drew HT1.out.drew HHD.out HBK.out.2)
          obtain ⟨vv, hvv⟩ : ∃ vv, vv = seenB nd (n' + 1) x.1.2 (IntKind.i64.wrap (px - dk.win.x)) (IntKind.i64.wrap (py - dk.win.y)) := ⟨_, rfl⟩
          rw [← hvv] at HR1
          have HVV := Lib.hid (show vv = seenB nd (n' + 1) x.1.2 (IntKind.i64.wrap (px - xOf nd x.1.2)) (IntKind.i64.wrap (py - yOf nd x.1.2)) by rw [hvv]; simp only [xOf, yOf, HBK.out.1])
          have HQ1 := Lib.hid (show w1.cell? ⟨w.heap.size, 0, none⟩ = some (treeP t) ∧ w1.cell? ⟨w.heap.size + 1, 0, none⟩ = some (.int .i64 px) ∧ w1.cell? ⟨w.heap.size + 1, 1, none⟩ = some (.int .i64 py) ∧ w1.cell? ⟨w.heap.size + 1 + 1, 0, none⟩ = some (.int .i64 0) ∧ w1.frozen? ⟨w.heap.size + 1 + 1, 0, none⟩ = false from by
            obtain ⟨c1, c2⟩ := bcell HB1.out
            obtain ⟨r0, r1, r2, r3, r4⟩ := HQ.out
            exact ⟨(c1 _ _ (World.block_lt_of_cell? _ _ r0)).trans r0, (c1 _ _ (World.block_lt_of_cell? _ _ r1)).trans r1, (c1 _ _ (World.block_lt_of_cell? _ _ r1)).trans r2, (c1 _ _ (World.block_lt_of_cell? _ _ r3)).trans r3, (c2 _ _ (World.block_lt_of_cell? _ _ r3)).trans r4⟩)
          have HS2 := Lib.hid (fun (W2 : World) (hb2 : Below w1.heap.size w1 W2) => (show W2.cell? ⟨w.heap.size, 0, none⟩ = some (treeP t) ∧ (W2.cell? ⟨bk, 2, none⟩ = some (.int .i64 dk.win.x) ∧ W2.cell? ⟨bk, 3, none⟩ = some (.int .i64 dk.win.y)) ∧ W2.cell? ⟨w.heap.size + 1, 0, none⟩ = some (.int .i64 px) ∧ W2.cell? ⟨w.heap.size + 1, 1, none⟩ = some (.int .i64 py) from by
            obtain ⟨c1, c2⟩ := bcell hb2
            obtain ⟨r0, r1, r2, r3, r4⟩ := HQ1.out
            obtain ⟨-, -, s2, s3, -⟩ := HK1.out
            exact ⟨(c1 _ _ (World.block_lt_of_cell? _ _ r0)).trans r0, ⟨(c1 _ _ (World.block_lt_of_cell? _ _ s2)).trans s2, (c1 _ _ (World.block_lt_of_cell? _ _ s3)).trans s3⟩, (c1 _ _ (World.block_lt_of_cell? _ _ r1)).trans r1, (c1 _ _ (World.block_lt_of_cell? _ _ r2)).trans r2⟩))
          have HS4 := Lib.hid (fun (W2 : World) (hb2 : Below w1.heap.size w1 W2) => (show W2.cell? ⟨w.heap.size + 1 + 1, 0, none⟩ = some (.int .i64 0) ∧ W2.frozen? ⟨w.heap.size + 1 + 1, 0, none⟩ = false from by
            obtain ⟨c1, c2⟩ := bcell hb2
            obtain ⟨r0, r1, r2, r3, r4⟩ := HQ1.out
            exact ⟨(c1 _ _ (World.block_lt_of_cell? _ _ r3)).trans r3, (c2 _ _ (World.block_lt_of_cell? _ _ r3)).trans r4⟩))
          have HBL := Lib.hid (show bk < w.heap.size from (HH.out.node _ bk dk HBK.out.2 HBK.out.1).1.lt)
          have HS3 := Lib.hid (fun (W2 : World) (hb2 : Below w1.heap.size w1 W2) => (show (W2.setCell ⟨w.heap.size + 1 + 1, 0, none⟩ (.int .i64 vv)).cell? ⟨w.heap.size, 0, none⟩ = some (treeP t) ∧ ((W2.setCell ⟨w.heap.size + 1 + 1, 0, none⟩ (.int .i64 vv)).cell? ⟨bk, 2, none⟩ = some (.int .i64 dk.win.x) ∧ (W2.setCell ⟨w.heap.size + 1 + 1, 0, none⟩ (.int .i64 vv)).cell? ⟨bk, 3, none⟩ = some (.int .i64 dk.win.y)) ∧
              (W2.setCell ⟨w.heap.size + 1 + 1, 0, none⟩ (.int .i64 vv)).cell? ⟨w.heap.size + 1, 0, none⟩ = some (.int .i64 px) ∧ (W2.setCell ⟨w.heap.size + 1 + 1, 0, none⟩ (.int .i64 vv)).cell? ⟨w.heap.size + 1, 1, none⟩ = some (.int .i64 py) from by
            have hbl := HBL.out
            obtain ⟨r0, ⟨r2, r3⟩, r4, r5⟩ := HS2.out W2 hb2
            exact ⟨(World.cell?_setCell_other _ _ _ _ (fun e => by simp at e)).trans r0, ⟨(World.cell?_setCell_other _ _ _ _ (fun e => by simp at e)).trans r2, (World.cell?_setCell_other _ _ _ _ (fun e => by simp at e)).trans r3⟩, (World.cell?_setCell_other _ _ _ _ (fun e => by simp at e)).trans r4, (World.cell?_setCell_other _ _ _ _ (fun e => by simp at e)).trans r5⟩))
          obtain ⟨-, -, g2, g3, -⟩ := HK1.out
          obtain ⟨g0, g4, g5, -, -⟩ := HQ1.out
          clear hvv
          gi_wp2
          refine region_in (S := fun wx => wx.cell? ⟨w.heap.size, 0, none⟩ = some (treeP t) ∧ (wx.cell? ⟨bk, 2, none⟩ = some (.int .i64 dk.win.x) ∧ wx.cell? ⟨bk, 3, none⟩ = some (.int .i64 dk.win.y)) ∧ wx.cell? ⟨w.heap.size + 1, 0, none⟩ = some (.int .i64 px) ∧ wx.cell? ⟨w.heap.size + 1, 1, none⟩ = some (.int .i64 py)) (by kernel_rfl) (by kernel_rfl) (by exact ⟨g0, ⟨g2, g3⟩, g4, g5⟩) (fun hHeld => ?_)
          refine wpAnyH_take (i := 0) (v := ?vr0) rfl (by kernel_rfl) (by kernel_rfl) (by kernel_rfl) (fun _ _ _ h => h) (Or.inl ⟨by kernel_rfl, ?yr0⟩) (by assumption) ?rr0
          case yr0 => (intro wq hSw; (try dsimp only at hSw); go_simp; (try with_reducible rfl))
          (try simp only [Act.put, List.getElem_toArray, List.getElem_cons_zero, List.setIfInBounds_toArray, List.set_cons_zero, List.set_cons_succ])
          refine wpAnyH_take (i := 1) (v := ?vr1) rfl (by kernel_rfl) (by kernel_rfl) (by kernel_rfl) (fun _ _ _ h => h) (Or.inl ⟨by kernel_rfl, ?yr1⟩) (by assumption) ?rr1
          case yr1 => (intro wq hSw; (try dsimp only at hSw); go_simp; (try with_reducible rfl))
          (try simp only [Act.put, List.getElem_toArray, List.getElem_cons_succ, List.getElem_cons_zero, List.setIfInBounds_toArray, List.set_cons_zero, List.set_cons_succ])
          refine wpAnyH_take (i := 2) (v := ?vr2) rfl (by kernel_rfl) (by kernel_rfl) (by kernel_rfl) (fun _ _ _ h => h) (Or.inl ⟨by kernel_rfl, ?yr2⟩) (by assumption) ?rr2
          case yr2 => (intro wq hSw; (try dsimp only at hSw); go_simp; (try with_reducible rfl))
          (try simp only [Act.put, List.getElem_toArray, List.getElem_cons_succ, List.getElem_cons_zero, List.setIfInBounds_toArray, List.set_cons_zero, List.set_cons_succ])
          refine wpAnyH_take (i := 3) (v := ?vr3) rfl (by kernel_rfl) (by kernel_rfl) (by kernel_rfl) (fun _ _ _ h => h) (Or.inl ⟨by kernel_rfl, ?yr3⟩) (by assumption) ?rr3
          case yr3 => (intro wq hSw; (try dsimp only at hSw); go_simp; (try with_reducible rfl))
          (try simp only [Act.put, List.getElem_toArray, List.getElem_cons_succ, List.getElem_cons_zero, List.setIfInBounds_toArray, List.set_cons_zero, List.set_cons_succ])
          refine wpAnyH_take (i := 4) (v := ?vr4) rfl (by kernel_rfl) (by kernel_rfl) (by kernel_rfl) (fun _ _ _ h => h) (Or.inl ⟨by kernel_rfl, ?yr4⟩) (by assumption) ?rr4
          case yr4 => (intro wq hSw; (try dsimp only at hSw); go_simp; (try with_reducible rfl))
          (try simp only [Act.put, List.getElem_toArray, List.getElem_cons_succ, List.getElem_cons_zero, List.setIfInBounds_toArray, List.set_cons_zero, List.set_cons_succ])
          refine wpAnyH_take (i := 5) (v := ?vr5) rfl (by kernel_rfl) (by kernel_rfl) (by kernel_rfl) (fun _ _ _ h => h) (Or.inl ⟨by kernel_rfl, ?yr5⟩) (by assumption) ?rr5
          case yr5 => (intro wq hSw; (try dsimp only at hSw); go_simp; (try with_reducible rfl))
          (try simp only [Act.put, List.getElem_toArray, List.getElem_cons_succ, List.getElem_cons_zero, List.setIfInBounds_toArray, List.set_cons_zero, List.set_cons_succ])
          refine wpAnyH_take (i := 6) (v := ?vr6) rfl (by kernel_rfl) (by kernel_rfl) (by kernel_rfl) (fun _ _ _ h => h) (Or.inl ⟨by kernel_rfl, ?yr6⟩) (by assumption) ?rr6
          case yr6 => (intro wq hSw; (try dsimp only at hSw); go_simp; (try with_reducible rfl))
          (try simp only [Act.put, List.getElem_toArray, List.getElem_cons_succ, List.getElem_cons_zero, List.setIfInBounds_toArray, List.set_cons_zero, List.set_cons_succ])
          refine wpAnyH_take (i := 7) (v := ?vr7) rfl (by kernel_rfl) (by kernel_rfl) (by kernel_rfl) (fun _ _ _ h => h) (Or.inl ⟨by kernel_rfl, ?yr7⟩) (by assumption) ?rr7
          case yr7 => (intro wq hSw; (try dsimp only at hSw); go_simp; (try with_reducible rfl))
          (try simp only [Act.put, List.getElem_toArray, List.getElem_cons_succ, List.getElem_cons_zero, List.setIfInBounds_toArray, List.set_cons_zero, List.set_cons_succ])
          refine wpAnyH_take (i := 8) (v := ?vr8) rfl (by kernel_rfl) (by kernel_rfl) (by kernel_rfl) (fun _ _ _ h => h) (Or.inl ⟨by kernel_rfl, ?yr8⟩) (by assumption) ?rr8
          case yr8 => (intro wq hSw; (try dsimp only at hSw); go_simp; (try with_reducible rfl))
          (try simp only [Act.put, List.getElem_toArray, List.getElem_cons_succ, List.getElem_cons_zero, List.setIfInBounds_toArray, List.set_cons_zero, List.set_cons_succ])
          refine wpAnyH_take (i := 9) (v := ?vr9) rfl (by kernel_rfl) (by kernel_rfl) (by kernel_rfl) (fun _ _ _ h => h) (Or.inl ⟨by kernel_rfl, ?yr9⟩) (by assumption) ?rr9
          case yr9 => (intro wq hSw; (try dsimp only at hSw); go_simp; (try with_reducible rfl))
          (try simp only [Act.put, List.getElem_toArray, List.getElem_cons_succ, List.getElem_cons_zero, List.setIfInBounds_toArray, List.set_cons_zero, List.set_cons_succ])
          refine wpAnyH_take (i := 10) (v := ?vr10) rfl (by kernel_rfl) (by kernel_rfl) (by kernel_rfl) (fun _ _ _ h => h) (Or.inl ⟨by kernel_rfl, ?yr10⟩) (by assumption) ?rr10
          case yr10 => (intro wq hSw; (try dsimp only at hSw); go_simp; (try with_reducible rfl))
          (try simp only [Act.put, List.getElem_toArray, List.getElem_cons_succ, List.getElem_cons_zero, List.setIfInBounds_toArray, List.set_cons_zero, List.set_cons_succ])
          refine wpAnyH_take (i := 11) (v := ?vr11) rfl (by kernel_rfl) (by kernel_rfl) (by kernel_rfl) (fun _ _ _ h => h) (Or.inl ⟨by kernel_rfl, ?yr11⟩) (by assumption) ?rr11
          case yr11 => (intro wq hSw; (try dsimp only at hSw); go_simp; (try with_reducible rfl))
          (try simp only [Act.put, List.getElem_toArray, List.getElem_cons_succ, List.getElem_cons_zero, List.setIfInBounds_toArray, List.set_cons_zero, List.set_cons_succ])
          refine wpAnyH_take (i := 12) (v := ?vr12) rfl (by kernel_rfl) (by kernel_rfl) (by kernel_rfl) (fun _ _ _ h => h) (Or.inl ⟨by kernel_rfl, ?yr12⟩) (by assumption) ?rr12
          case yr12 => (intro wq hSw; (try dsimp only at hSw); go_simp; (try with_reducible rfl))
          (try simp only [Act.put, List.getElem_toArray, List.getElem_cons_succ, List.getElem_cons_zero, List.setIfInBounds_toArray, List.set_cons_zero, List.set_cons_succ])
          refine wpAnyH_take (i := 13) (v := ?vr13) rfl (by kernel_rfl) (by kernel_rfl) (by kernel_rfl) (fun _ _ _ h => h) (Or.inl ⟨by kernel_rfl, ?yr13⟩) (by assumption) ?rr13
          case yr13 => (intro wq hSw; (try dsimp only at hSw); go_simp; (try with_reducible rfl))
          (try simp only [Act.put, List.getElem_toArray, List.getElem_cons_succ, List.getElem_cons_zero, List.setIfInBounds_toArray, List.set_cons_zero, List.set_cons_succ])
          refine wpAnyH_take (i := 14) (v := ?vr14) rfl (by kernel_rfl) (by kernel_rfl) (by kernel_rfl) (fun _ _ _ h => h) (Or.inl ⟨by kernel_rfl, ?yr14⟩) (by assumption) ?rr14
          case yr14 => (intro wq hSw; (try dsimp only at hSw); go_simp; (try with_reducible rfl))
          (try simp only [Act.put, List.getElem_toArray, List.getElem_cons_succ, List.getElem_cons_zero, List.setIfInBounds_toArray, List.set_cons_zero, List.set_cons_succ])
          refine wpAnyH_take (i := 15) (v := ?vr15) rfl (by kernel_rfl) (by kernel_rfl) (by kernel_rfl) (fun _ _ _ h => h) (Or.inl ⟨by kernel_rfl, ?yr15⟩) (by assumption) ?rr15
          case yr15 => (intro wq hSw; (try dsimp only at hSw); go_simp; (try with_reducible rfl))
          (try simp only [Act.put, List.getElem_toArray, List.getElem_cons_succ, List.getElem_cons_zero, List.setIfInBounds_toArray, List.set_cons_zero, List.set_cons_succ])
          refine wpAnyH_take (i := 16) (v := ?vr16) rfl (by kernel_rfl) (by kernel_rfl) (by kernel_rfl) (fun _ _ _ h => h) (Or.inl ⟨by kernel_rfl, ?yr16⟩) (by assumption) ?rr16
          case yr16 => (intro wq hSw; (try dsimp only at hSw); go_simp; (try with_reducible rfl))
          (try simp only [Act.put, List.getElem_toArray, List.getElem_cons_succ, List.getElem_cons_zero, List.setIfInBounds_toArray, List.set_cons_zero, List.set_cons_succ])
          refine wpAnyH_take (i := 17) (v := ?vr17) rfl (by kernel_rfl) (by kernel_rfl) (by kernel_rfl) (fun _ _ _ h => h) (Or.inl ⟨by kernel_rfl, ?yr17⟩) (by assumption) ?rr17
          case yr17 => (intro wq hSw; (try dsimp only at hSw); go_simp; (try with_reducible rfl))
          (try simp only [Act.put, List.getElem_toArray, List.getElem_cons_succ, List.getElem_cons_zero, List.setIfInBounds_toArray, List.set_cons_zero, List.set_cons_succ])
          refine wpAnyH_take (i := 18) (v := ?vr18) rfl (by kernel_rfl) (by kernel_rfl) (by kernel_rfl) (fun _ _ _ h => h) (Or.inl ⟨by kernel_rfl, ?yr18⟩) (by assumption) ?rr18
          case yr18 => (intro wq hSw; (try dsimp only at hSw); go_simp; (try with_reducible rfl))
          (try simp only [Act.put, List.getElem_toArray, List.getElem_cons_succ, List.getElem_cons_zero, List.setIfInBounds_toArray, List.set_cons_zero, List.set_cons_succ])
          refine wpAnyH_take (i := 19) (v := ?vr19) rfl (by kernel_rfl) (by kernel_rfl) (by kernel_rfl) (fun _ _ _ h => h) (Or.inl ⟨by kernel_rfl, ?yr19⟩) (by assumption) ?rr19
          case yr19 => (intro wq hSw; (try dsimp only at hSw); go_simp; (try with_reducible rfl))
          (try simp only [Act.put, List.getElem_toArray, List.getElem_cons_succ, List.getElem_cons_zero, List.setIfInBounds_toArray, List.set_cons_zero, List.set_cons_succ])
          refine wpAnyH_take (i := 20) (v := ?vr20) rfl (by kernel_rfl) (by kernel_rfl) (by kernel_rfl) (fun _ _ _ h => h) (Or.inl ⟨by kernel_rfl, ?yr20⟩) (by assumption) ?rr20
          case yr20 => (intro wq hSw; (try dsimp only at hSw); go_simp; (try with_reducible rfl))
          (try simp only [Act.put, List.getElem_toArray, List.getElem_cons_succ, List.getElem_cons_zero, List.setIfInBounds_toArray, List.set_cons_zero, List.set_cons_succ])
          refine wpAnyH_ready (rs := [21]) (by kernel_rfl) (by simp) ?_
          refine AllReadyH.cons rfl (fun K hK => ?_) AllReadyH.nil
          go_simp
          refine (HR1.out).mono ?_
          rintro e w2 ⟨rfl, hb0⟩; have hb2 : Below w1.heap.size w1 w2 := ((Below.refl _ w1).drew).trans hb0; clear hb0; have HB2 := Lib.hid hb2; obtain ⟨z0, z1⟩ := HS4.out _ hb2
          (try dsimp only)
          refine hK.out _ _ (by exact HS2.out _ hb2) (fun hHeld => ?_)
          clear hK K
          (try simp only [Act.put, List.getElem_toArray, List.getElem_cons_succ, List.getElem_cons_zero, List.setIfInBounds_toArray, List.set_cons_zero, List.set_cons_succ])
          refine wpAnyH_ready (rs := [22]) (by kernel_rfl) (by simp) ?_
          refine AllReadyH.cons rfl (fun K hK => ?_) AllReadyH.nil
          go_simp
          refine hK.out _ _ (by exact (HS3.out _ HB2.out)) (fun hHeld => ?_)
          clear hK K
          (try simp only [Act.put, List.getElem_toArray, List.getElem_cons_succ, List.getElem_cons_zero, List.setIfInBounds_toArray, List.set_cons_zero, List.set_cons_succ])
          refine wpAnyH_done (by kernel_rfl) ?_ _
          refine OnlyOn.normal ?_
          gi_wp2
          have HB3 := HB2.out.on HB1.out HB1.out.size
          refine ⟨?_, ⟨rfl, pre, x, rfl, HPP.out, HF.out, ?_⟩, ?_⟩
          · exact ((KeepsOthers.of_grownBy (only_of_below HB3 none) (fun j o e => by cases e)).trans (KeepsOthers.setCell _ _ _)).from _
          · rw [← HVV.out]; exact World.cell?_setCell_same' _ _ _ (by rw [z0]; rfl)
          · exact (HB3.on HBW.out HBW.out.size).setCell (by show w.heap.size ≤ w.heap.size + 1 + 1; omega) _
    case done =>
      rintro D ys W hD rfl hS hK
      obtain ⟨hq, hid⟩ := HN.out W hS
      obtain ⟨⟨-, -, -, ⟨q3, q3f⟩, -⟩, hBW⟩ := hS
      have HQ := Lib.hid hq
      have HBW := Lib.hid hBW
      have HK := Lib.hid hK
      have HHD := Lib.hid hD
      clear hq hBW hK hD k7 hBz
      gi_wp2
      have hK' := (KeepsOthers.setCell W ⟨w.heap.size + 1 + 1, 0, none⟩ (.int .i64 d.win.id)).same D _ HK.out rfl
      refine ⟨by simp, .inl ⟨_, _, rfl, run_takeDeferred hK', ?_⟩⟩
      have hc5 := cell_kept (World.cell?_setCell_same' W ⟨w.heap.size + 1 + 1, 0, none⟩ (.int .i64 d.win.id) (by rw [q3]; rfl)) (grownBy_putObj' _ D (.deferred none)) (fun r e => by cases e; exact ⟨_, hK', rfl⟩)
      refine ⟨.int .i64 d.win.id, ?_, by rw [HQ.out], (HBW.out.setCell (p := ⟨w.heap.size + 1 + 1, 0, none⟩) (by show w.heap.size ≤ w.heap.size + 1 + 1; omega) _).trans (belowK_b (w := w) (Nat.le_refl _) _ D _ _ (by have := HHD.out; have := HZ4.out; omega) hK' rfl rfl)⟩
      simp [results, Try.f44, go_sem, hc5]
    case stop =>
      rintro D cc pre W hD hpre hS hK
      obtain rfl := hS.1.1
      have hcell := HP.out pre W hpre hS
      have HBW := Lib.hid hS.2
      have HK := Lib.hid hK
      have HHD := Lib.hid hD
      clear hS hK hD k7 hBz
      gi_wp2
      refine ⟨by simp, .inl ⟨_, _, rfl, run_takeDeferred HK.out, ?_⟩⟩
      have hc5 := cell_kept hcell (grownBy_putObj' _ D (.deferred none)) (fun r e => by cases e; exact ⟨_, HK.out, rfl⟩)
      refine ⟨.int .i64 (seenB nd (n + 1) i px py), ?_, rfl, HBW.out.trans (belowK_b (w := w) (Nat.le_refl _) _ D _ _ (by have := HHD.out; have := HZ4.out; omega) HK.out rfl rfl)⟩
      simp [results, Try.f44, go_sem, hc5]
end
end Go.Proofs.Ytphmlfklmleafaa
end
