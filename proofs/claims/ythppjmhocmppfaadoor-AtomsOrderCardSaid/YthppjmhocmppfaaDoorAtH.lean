/- Strut of the code. -/
import Derived.Test.YthppjmhocmppfaaDoorAtD
import Derived.Test.YthppjmhocmppfaaDoorAtS
import Derived.Shelf.Slices.Turned
namespace Go.Proofs.YthppjmhocmppfaaDoor
open Go.RowKit Go.Maps Go.Shelf
namespace At
abbrev stC (a b c d : Int) : Array Value := #[.string ⟨#[]⟩, .int .i64 a, .int .i64 b, .int .i64 c, .int .i64 d]
def TB (w : World) (g : Nat) (a b c d : Int) : Prop := Blk w g 34 (stC a b c d)
theorem TB.raw {w : World} {g : Nat} {a b c d : Int} (h : TB w g a b c d) : Blk w g 34 (stC a b c d) := h
theorem TB.next {w w' : World} {g : Nat} {a b c d : Int} (h : TB w g a b c d) (hb : Below w.heap.size w w') : TB w' g a b c d := Blk.next h hb
theorem TB.out {w : World} {g : Nat} {a b c d : Int} (h : TB w g a b c d) :
    (w.cell? ⟨g, 0, none⟩ = some (.string ⟨#[]⟩) ∧ w.cell? ⟨g, 1, none⟩ = some (.int .i64 a) ∧ w.cell? ⟨g, 2, none⟩ = some (.int .i64 b) ∧ w.cell? ⟨g, 3, none⟩ = some (.int .i64 c) ∧ w.cell? ⟨g, 4, none⟩ = some (.int .i64 d)) ∧
    (w.frozen? ⟨g, 0, none⟩ = false ∧ w.frozen? ⟨g, 1, none⟩ = false ∧ w.frozen? ⟨g, 2, none⟩ = false ∧ w.frozen? ⟨g, 3, none⟩ = false ∧ w.frozen? ⟨g, 4, none⟩ = false) :=
  ⟨⟨h.raw.at_ rfl, h.raw.at_ rfl, h.raw.at_ rfl, h.raw.at_ rfl, h.raw.at_ rfl⟩, h.raw.frozen 0, h.raw.frozen 1, h.raw.frozen 2, h.raw.frozen 3, h.raw.frozen 4⟩
abbrev put5 (W : World) (g : Nat) (a b c d : Int) : World := ((((W.setCell ⟨g, 0, none⟩ (.string ⟨#[]⟩)).setCell ⟨g, 1, none⟩ (.int .i64 a)).setCell ⟨g, 2, none⟩ (.int .i64 b)).setCell ⟨g, 3, none⟩ (.int .i64 c)).setCell ⟨g, 4, none⟩ (.int .i64 d)
theorem TB.put {W : World} {g : Nat} {a b c d : Int} (h : TB W g a b c d) (a' b' c' d' : Int) : TB (put5 W g a' b' c' d') g a' b' c' d' := by
  have h1 := Blk.set_ h.raw 0 (.string ⟨#[]⟩)
  have h2 := Blk.set_ h1 1 (.int .i64 a')
  have h3 := Blk.set_ h2 2 (.int .i64 b')
  have h4 := Blk.set_ h3 3 (.int .i64 c')
  exact Blk.set_ h4 4 (.int .i64 d')
theorem below_put5 {B : Nat} {w0 W : World} {g : Nat} (h : Below B w0 W) (hg : B ≤ g) (a b c d : Int) : Below B w0 (put5 W g a b c d) :=
  ((((h.setCell hg _).setCell hg _).setCell hg _).setCell hg _).setCell hg _
theorem TB.zero (w : World) : TB (w.alloc (.cells (stC 0 0 0 0) 34)) w.heap.size 0 0 0 0 := Blk.new _ _ _
theorem res_strut {fn : Func} {a b : Tmp} (h : fn.results = #[.cell a 34, .tmp b]) (tmps : Array Value) {g : Nat} (ht : tmps.getD a undef = .pointer (some ⟨g, 0, none⟩)) {r : Value} (hr : tmps.getD b undef = r) {w : World} {x y z t : Int} (hB : TB w g x y z t) :
    (results fn tmps).run Tryd.prog w = .ok (.tuple #[strV x y z t, r]) w := by
  obtain ⟨⟨c0, c1, c2, c3, c4⟩, -⟩ := hB.out
  have ht' : tmps[a]?.getD undef = .pointer (some ⟨g, 0, none⟩) := by simpa using ht
  have hr' : tmps[b]?.getD undef = r := by simpa using hr
  simp [results, h, ht', hr', go_sem, c0, c1, c2, c3, c4, strV]
def stOf (l : List Int) : Prop := l.length = 4 ∨ l.length = 12
theorem strOk_not {l : List Int} (h : ¬ stOf l) : strOk l = false := by
  match l, h with
  | [], _ => rfl
  | [_], _ => rfl
  | [_, _], _ => rfl
  | [_, _, _], _ => rfl
  | a :: b :: c :: d :: r, h =>
    have h1 : r.length ≠ 0 := fun e => h (.inl (by simp [e]))
    have h2 : r.length ≠ 8 := fun e => h (.inr (by simp [e]))
    simp [strOk, h1, h2]
theorem stOf_open {l : List Int} (h : stOf l) : ∃ a b c d r, l = a :: b :: c :: d :: r ∧ (r.length = 0 ∨ r.length = 8) := by
  match l, h with
  | [], h => rcases h with h | h <;> simp at h
  | [_], h => rcases h with h | h <;> simp at h
  | [_, _], h => rcases h with h | h <;> simp at h
  | [_, _, _], h => rcases h with h | h <;> simp at h
  | a :: b :: c :: d :: r, h =>
    refine ⟨a, b, c, d, r, rfl, ?_⟩
    rcases h with h | h <;> simp only [List.length_cons] at h <;> omega
theorem strOk_eq (a b c d : Int) {r : List Int} (h : r.length = 0 ∨ r.length = 8) : strOk (a :: b :: c :: d :: r) = (okS a && okS b && okS c && okS d) := by
  unfold strOk
  rcases h with h | h <;> simp [h]
theorem strL_no {l : List Int} (h : strOk l = false) : strL l = strV 0 0 0 0 := by unfold strL; rw [h]; rfl
theorem strL_yes {a b c d : Int} {r : List Int} (h : strOk (a :: b :: c :: d :: r) = true) : strL (a :: b :: c :: d :: r) = strV a b c d := by unfold strL; rw [h]; rfl
theorem minmax (a b c d : Int) (r : List Int) : (okS a && okS b && okS c && okS d) = (!decide (Lib.minOf ((a :: b :: c :: d :: r).take 4) < 0) && !decide (Lib.maxOf ((a :: b :: c :: d :: r).take 4) > 32767)) := by
  have h1 : Lib.minOf ((a :: b :: c :: d :: r).take 4) = min (min (min a b) c) d := by
    show min (min (min (min a a) b) c) d = _
    rw [Int.min_self]
  have h2 : Lib.maxOf ((a :: b :: c :: d :: r).take 4) = max (max (max a b) c) d := by
    show max (max (max (max a a) b) c) d = _
    rw [Int.max_self]
  rw [h1, h2, Bool.eq_iff_iff]
  simp [okS]
  omega
set_option maxRecDepth 100000 in
set_option maxHeartbeats 4000000 in
theorem strut_no (s : ByteArray) (w : World) (hs : s.size ≤ 1048576) (hn : ¬ stOf (NL s)) : Calls Tryd.prog 22 #[.string s] w fun e w' => e = .returned (.tuple #[strV 0 0 0 0, .bool false]) ∧ Below w.heap.size w w' := by
  have HN := Lib.hid (fun W : World => nums_code s W hs)
  generalize NL s = l at *
  clear hs
  obtain ⟨n, hl⟩ : ∃ n, l.length = n := ⟨_, rfl⟩
  have h2 : ((n : Int) != 4) = true := by unfold stOf at hn; rw [hl] at hn; simp; omega
  have h3 : ((n : Int) == 4) = false := by unfold stOf at hn; rw [hl] at hn; simp; omega
  have h4 : ((n : Int) != 12) = true := by unfold stOf at hn; rw [hl] at hn; simp; omega
  have h5 : ((n : Int) == 12) = false := by unfold stOf at hn; rw [hl] at hn; simp; omega
  have HL := Lib.hid hl
  clear hl hn
  have A0 := TB.zero w
  have W0 : Below w.heap.size w (w.alloc (.cells (stC 0 0 0 0) 34)) := (Below.refl _ _).alloc (Nat.le_refl _) _
  go_enter Tryd.func22, Tryd.ntmps22
  go_upto_region 2 with (go_at_call 27; ((with_reducible refine (HN.out _).mono ?_); rintro e w1 ⟨v, rfl, hr, hb⟩); skip)
  obtain ⟨p, c, rfl⟩ := rd_len' hr HL.out
  have A1 := A0.next hb
  have W1 := hb.on W0 W0.size
  clear hr hb A0 W0
  obtain ⟨⟨c0, c1, c2, c3, c4⟩, f0, f1, f2, f3, f4⟩ := A1.out
  go_upto_region 3 with fail
  go_cut [3] (fun r wx => r = .bool false ∧ TB wx w.heap.size 0 0 0 0 ∧ Below w.heap.size w wx)
  case first =>
    go_wp2_with fail
    go_meet
    exact ⟨rfl, A1.put 0 0 0 0, below_put5 W1 (Nat.le_refl _) 0 0 0 0⟩
  case rest =>
    obtain ⟨rfl, X1, X2⟩ := hcut
    rename_i K2 aK2
    refine aK2 _ _ ?_
    refine wp_ret ?_
    (try simp only [Exit.then])
    exact bodyPost_ret (res_strut rfl _ rfl rfl X1) rfl ⟨rfl, X2⟩
theorem row_at {W : World} {p : Nat} {l : List Int} (h : ∀ j y, l[j]? = some y → W.cell? ⟨p, j, none⟩ = some (.int .i64 y)) : ∀ j, j < l.length → W.cell? ⟨p, 0 + j, none⟩ = some (.int .i64 (l.getD j 0)) := by
  intro j hj
  rw [Nat.zero_add, h j l[j] (List.getElem?_eq_getElem hj)]
  simp [List.getD, List.getElem?_eq_getElem hj]
theorem put5_far {W : World} {g p j : Nat} (h : p ≠ g) (a b c d : Int) : (put5 W g a b c d).cell? ⟨p, j, none⟩ = W.cell? ⟨p, j, none⟩ := by
  have far : ∀ (V : World) (i : Nat) (u : Value), (V.setCell ⟨g, i, none⟩ u).cell? ⟨p, j, none⟩ = V.cell? ⟨p, j, none⟩ := by
    intro V i u
    unfold World.cell?
    dsimp only
    rw [Below.heap_setCell V _ u p h]
  unfold put5
  rw [far, far, far, far, far]
/-- The memory of Strut. -/
structure Sq (w : World) (p : Nat) (a b c d x y z t : Int) (W : World) : Prop where
  t : TB W w.heap.size x y z t
  c0 : W.cell? ⟨p, 0, none⟩ = some (.int .i64 a)
  c1 : W.cell? ⟨p, 1, none⟩ = some (.int .i64 b)
  c2 : W.cell? ⟨p, 2, none⟩ = some (.int .i64 c)
  c3 : W.cell? ⟨p, 3, none⟩ = some (.int .i64 d)
  be : Below w.heap.size w W
theorem Sq.drew {w : World} {p : Nat} {a b c d x y z t : Int} {W : World} (h : Sq w p a b c d x y z t W) : Sq w p a b c d x y z t W.drew := ⟨h.t, h.c0, h.c1, h.c2, h.c3, Below.drew h.be⟩
theorem Sq.put {w : World} {p : Nat} {a b c d x y z t : Int} {W : World} (h : Sq w p a b c d x y z t W) (hp : p ≠ w.heap.size) (x' y' z' t' : Int) : Sq w p a b c d x' y' z' t' (put5 W w.heap.size x' y' z' t') :=
  ⟨h.t.put _ _ _ _, (put5_far hp _ _ _ _).trans h.c0, (put5_far hp _ _ _ _).trans h.c1, (put5_far hp _ _ _ _).trans h.c2, (put5_far hp _ _ _ _).trans h.c3, below_put5 h.be (Nat.le_refl _) _ _ _ _⟩
set_option maxRecDepth 100000 in
set_option maxHeartbeats 4000000 in
theorem strut_yes (s : ByteArray) (w : World) (hs : s.size ≤ 1048576) (a b c d : Int) (r : List Int) (hl : NL s = a :: b :: c :: d :: r) (hr : r.length = 0 ∨ r.length = 8) :
    Calls Tryd.prog 22 #[.string s] w fun e w' => e = .returned (.tuple #[strL (NL s), .bool (strOk (NL s))]) ∧ Below w.heap.size w w' := by
  have hok := strOk_eq a b c d hr
  rw [minmax a b c d r] at hok
  have hno := strL_no (l := a :: b :: c :: d :: r)
  have hye := strL_yes (a := a) (b := b) (c := c) (d := d) (r := r)
  rw [hl]
  have h4 : s.size % 4 = 0 := by
    apply Classical.byContradiction
    intro h
    unfold NL at hl
    rw [if_neg h] at hl
    cases hl
  have hnl : numsL s = a :: b :: c :: d :: r := by unfold NL at hl; rwa [if_pos h4] at hl
  obtain ⟨n, hn⟩ : ∃ n, s.size / 4 = n := ⟨_, rfl⟩
  have hlen : (a :: b :: c :: d :: r).length = n := by rw [← hnl, numsL_len, hn]
  have hn4 : n = 4 ∨ n = 12 := by simp only [List.length_cons] at hlen; omega
  obtain ⟨l, hll⟩ : ∃ l, a :: b :: c :: d :: r = l := ⟨_, rfl⟩
  have HN := Lib.hid (show ∀ W : World, Calls Tryd.prog 27 #[.string s] W fun e w' => ∃ p, e = .returned (.tuple #[.slice (some ⟨p, 0, none⟩) n n, .bool true]) ∧ (∀ j y, l[j]? = some y → w'.cell? ⟨p, j, none⟩ = some (.int .i64 y)) ∧ W.heap.size ≤ p ∧ Below W.heap.size W w' from fun W => (numbers_at s W (by omega) h4).mono (by
    rintro e w1 ⟨v, rfl, hRd, hb1, hv⟩
    rw [hn] at hv
    subst hv
    rw [hnl, hll] at hRd
    refine ⟨W.heap.size, rfl, fun j y hy => ?_, Nat.le_refl _, hb1⟩
    obtain ⟨p', c', hpe, hcl⟩ := hRd
    injection hpe with hp1 hp2 hp3
    obtain ⟨b0, o0, hbo, hlt, hc⟩ := hcl j (.int .i64 y) (by rw [List.getElem?_map, hy]; rfl)
    rw [← hp1] at hbo
    cases hbo
    rwa [Nat.zero_add] at hc))
  have g0 : l[0]? = some a := by rw [← hll]; rfl
  have g1 : l[1]? = some b := by rw [← hll]; rfl
  have g2 : l[2]? = some c := by rw [← hll]; rfl
  have g3 : l[3]? = some d := by rw [← hll]; rfl
  have hlen4 : 4 ≤ l.length := by rw [← hll, hlen]; omega
  have HMI := Lib.hid (fun (p : Nat) (W : World) (h : ∀ j y, l[j]? = some y → W.cell? ⟨p, j, none⟩ = some (.int .i64 y)) => (show Calls Tryd.prog 40 #[.slice (some ⟨p, 0, none⟩) 4 n] W fun e w' => e = .returned (.int .i64 (Lib.minOf (l.take 4))) ∧ W = w' from (Any.slices_Min_int minI p 0 4 n l W (by omega) hlen4 (by omega) (row_at h)).mono fun e w' hh => ⟨hh.1, hh.2.symm⟩))
  have HMA := Lib.hid (fun (p : Nat) (W : World) (h : ∀ j y, l[j]? = some y → W.cell? ⟨p, j, none⟩ = some (.int .i64 y)) => (show Calls Tryd.prog 41 #[.slice (some ⟨p, 0, none⟩) 4 n] W fun e w' => e = .returned (.int .i64 (Lib.maxOf (l.take 4))) ∧ W = w' from (Any.slices_Max_int maxI p 0 4 n l W (by omega) hlen4 (by omega) (row_at h)).mono fun e w' hh => ⟨hh.1, hh.2.symm⟩))
  rw [hll] at hok hno hye ⊢
  obtain ⟨mi, hmi⟩ : ∃ m, Lib.minOf (l.take 4) = m := ⟨_, rfl⟩
  obtain ⟨ma, hma⟩ : ∃ m, Lib.maxOf (l.take 4) = m := ⟨_, rfl⟩
  rw [hmi, hma] at hok
  obtain ⟨so, hso⟩ : ∃ x, strOk l = x := ⟨_, rfl⟩
  obtain ⟨sv, hsv⟩ : ∃ x, strL l = x := ⟨_, rfl⟩
  rw [hso] at hok hno hye ⊢
  rw [hsv] at hno hye ⊢
  have HOK := Lib.hid hok
  have HNO := Lib.hid hno
  have HYE := Lib.hid hye
  clear hok hno hye hso hsv
  rw [hmi] at HMI
  rw [hma] at HMA
  have q4 : (4 : Int) ≤ (n : Int) := by omega
  have HC := Lib.hid (show (n : Int) = 4 ∨ (n : Int) = 12 by omega)
  have HG := Lib.hid (And.intro g0 (And.intro g1 (And.intro g2 g3)))
  clear hs hl hr h4 hnl hn hlen hn4 hll g0 g1 g2 g3 hlen4 hmi hma
  have A0 := TB.zero w
  have W0 : Below w.heap.size w (w.alloc (.cells (stC 0 0 0 0) 34)) := (Below.refl _ _).alloc (Nat.le_refl _) _
  go_enter Tryd.func22, Tryd.ntmps22
  go_upto_region 2 with (go_at_call 27; ((with_reducible refine (HN.out _).mono ?_); rintro e w1 ⟨p, rfl, hrow, hp, hb⟩); skip)
  have hS : Sq w p a b c d 0 0 0 0 w1 := ⟨A0.next hb, hrow 0 a HG.out.1, hrow 1 b HG.out.2.1, hrow 2 c HG.out.2.2.1, hrow 3 d HG.out.2.2.2, hb.on W0 W0.size⟩
  have hpn : p ≠ w.heap.size := by simp only [World.size_alloc] at hp; omega
  have HP := Lib.hid hpn
  have HROW := Lib.hid hrow
  have DS := Lib.hid hS
  clear hS hrow hp hb A0 W0 hpn HN
  have HI := Lib.hid (HMI.out p w1 HROW.out)
  have HA := Lib.hid (HMA.out p w1 HROW.out)
  clear HMI HMA HROW HG
  go_cut [19] (fun v wx => v = .bool false ∧ wx = w1)
  case first =>
    rcases HC.out with h | h
    · have h1 : ((n : Int) != 4) = false := by rw [h]; rfl
      go_wp2_with fail
      go_meet
      exact ⟨rfl, rfl⟩
    · have h1 : ((n : Int) != 4) = true := by rw [h]; rfl
      have h2 : ((n : Int) != 12) = false := by rw [h]; rfl
      go_wp2_with fail
      go_meet
      exact ⟨rfl, rfl⟩
  case rest =>
    obtain ⟨rfl, rfl⟩ := hcut
    obtain ⟨⟨k0, k1, k2, k3, k4⟩, kf0, kf1, kf2, kf3, kf4⟩ := DS.out.t.out
    by_cases hm : mi < 0
    · have ok0 : so = false := by rw [HOK.out, decide_eq_true hm]; rfl
      have sv0 := HNO.out ok0
      clear HOK HNO HYE
      subst ok0 sv0
      go_upto_region 6 with (go_at_call 40; ((with_reducible refine (HI.out).mono ?_); rintro e w2 ⟨rfl, rfl⟩); skip)
      go_cut [3] (fun r wx => r = .bool false ∧ TB wx w.heap.size 0 0 0 0 ∧ Below w.heap.size w wx)
      case first =>
        go_wp2_with fail
        go_meet
        exact ⟨rfl, DS.out.t.put 0 0 0 0, below_put5 DS.out.be (Nat.le_refl _) 0 0 0 0⟩
      case rest =>
        obtain ⟨rfl, X1, X2⟩ := hcut
        rename_i K2 aK2
        refine aK2 _ _ ?_
        refine wp_ret ?_
        (try simp only [Exit.then])
        exact bodyPost_ret (res_strut rfl _ rfl rfl X1) rfl ⟨rfl, X2⟩
    · by_cases hM : ma > 32767
      · have ok0 : so = false := by rw [HOK.out, decide_eq_false hm, decide_eq_true hM]; rfl
        have sv0 := HNO.out ok0
        clear HOK HNO HYE
        subst ok0 sv0
        go_upto_region 6 with (first | (go_at_call 40; ((with_reducible refine (HI.out).mono ?_); rintro e w2 ⟨rfl, rfl⟩); skip) | (go_at_call 41; ((with_reducible refine (HA.out).mono ?_); rintro e w2 ⟨rfl, rfl⟩); skip))
        go_cut [3] (fun r wx => r = .bool false ∧ TB wx w.heap.size 0 0 0 0 ∧ Below w.heap.size w wx)
        case first =>
          go_wp2_with fail
          go_meet
          exact ⟨rfl, DS.out.t.put 0 0 0 0, below_put5 DS.out.be (Nat.le_refl _) 0 0 0 0⟩
        case rest =>
          obtain ⟨rfl, X1, X2⟩ := hcut
          rename_i K2 aK2
          refine aK2 _ _ ?_
          refine wp_ret ?_
          (try simp only [Exit.then])
          exact bodyPost_ret (res_strut rfl _ rfl rfl X1) rfl ⟨rfl, X2⟩
      · have ok0 : so = true := by rw [HOK.out, decide_eq_false hm, decide_eq_false hM]; rfl
        have sv0 := HYE.out ok0
        clear HOK HNO HYE
        subst ok0 sv0
        go_upto_region 7 with (first | (go_at_call 40; ((with_reducible refine (HI.out).mono ?_); rintro e w2 ⟨rfl, rfl⟩); skip) | (go_at_call 41; ((with_reducible refine (HA.out).mono ?_); rintro e w2 ⟨rfl, rfl⟩); skip))
        go_cut [3] (fun r wx => r = .bool true ∧ TB wx w.heap.size a b c d ∧ Below w.heap.size w wx)
        case first =>
          have DD := Lib.hid DS.out.drew
          have l0 : (0 : Int) < (n : Int) := by omega
          refine wp_region_noPanic ?_
          refine wp_region_held_drew (S := fun wx => wx.cell? ⟨p, 0, none⟩ = some (.int .i64 a) ∧ wx.cell? ⟨p, 1, none⟩ = some (.int .i64 b) ∧ wx.cell? ⟨p, 2, none⟩ = some (.int .i64 c) ∧ wx.cell? ⟨p, 3, none⟩ = some (.int .i64 d)) (by kernel_rfl) (by exact ⟨DD.out.c0, DD.out.c1, DD.out.c2, DD.out.c3⟩) (fun hHeld => ?_)
          refine wpAnyH_take (i := 0) (v := ?vm0) rfl (by kernel_rfl) (by kernel_rfl) (by kernel_rfl) (fun _ _ _ h => h) (Or.inl ⟨by kernel_rfl, ?ym0⟩) (by assumption) ?rm0
          case ym0 => (intro wq hSw; (try dsimp only at hSw); go_simp; (try with_reducible rfl))
          (try simp only [Act.put, List.getElem_toArray, List.getElem_cons_zero, List.setIfInBounds_toArray, List.set_cons_zero, List.set_cons_succ])
          refine wpAnyH_take (i := 1) (v := ?vm1) rfl (by kernel_rfl) (by kernel_rfl) (by kernel_rfl) (fun _ _ _ h => h) (Or.inl ⟨by kernel_rfl, ?ym1⟩) (by assumption) ?rm1
          case ym1 => (intro wq hSw; (try dsimp only at hSw); go_simp; (try with_reducible rfl))
          (try simp only [Act.put, List.getElem_toArray, List.getElem_cons_succ, List.getElem_cons_zero, List.setIfInBounds_toArray, List.set_cons_zero, List.set_cons_succ])
          refine wpAnyH_take (i := 2) (v := ?vm2) rfl (by kernel_rfl) (by kernel_rfl) (by kernel_rfl) (fun _ _ _ h => h) (Or.inl ⟨by kernel_rfl, ?ym2⟩) (by assumption) ?rm2
          case ym2 => (intro wq hSw; (try dsimp only at hSw); go_simp; (try with_reducible rfl))
          (try simp only [Act.put, List.getElem_toArray, List.getElem_cons_succ, List.getElem_cons_zero, List.setIfInBounds_toArray, List.set_cons_zero, List.set_cons_succ])
          refine wpAnyH_take (i := 3) (v := ?vm3) rfl (by kernel_rfl) (by kernel_rfl) (by kernel_rfl) (fun _ _ _ h => h) (Or.inl ⟨by kernel_rfl, ?ym3⟩) (by assumption) ?rm3
          case ym3 => (intro wq hSw; (try dsimp only at hSw); go_simp; (try with_reducible rfl))
          (try simp only [Act.put, List.getElem_toArray, List.getElem_cons_succ, List.getElem_cons_zero, List.setIfInBounds_toArray, List.set_cons_zero, List.set_cons_succ])
          refine wpAnyH_take (i := 4) (v := ?vm4) rfl (by kernel_rfl) (by kernel_rfl) (by kernel_rfl) (fun _ _ _ h => h) (Or.inl ⟨by kernel_rfl, ?ym4⟩) (by assumption) ?rm4
          case ym4 => (intro wq hSw; (try dsimp only at hSw); go_simp; (try with_reducible rfl))
          (try simp only [Act.put, List.getElem_toArray, List.getElem_cons_succ, List.getElem_cons_zero, List.setIfInBounds_toArray, List.set_cons_zero, List.set_cons_succ])
          refine wpAnyH_take (i := 5) (v := ?vm5) rfl (by kernel_rfl) (by kernel_rfl) (by kernel_rfl) (fun _ _ _ h => h) (Or.inl ⟨by kernel_rfl, ?ym5⟩) (by assumption) ?rm5
          case ym5 => (intro wq hSw; (try dsimp only at hSw); go_simp; (try with_reducible rfl))
          (try simp only [Act.put, List.getElem_toArray, List.getElem_cons_succ, List.getElem_cons_zero, List.setIfInBounds_toArray, List.set_cons_zero, List.set_cons_succ])
          refine wpAnyH_take (i := 6) (v := ?vm6) rfl (by kernel_rfl) (by kernel_rfl) (by kernel_rfl) (fun _ _ _ h => h) (Or.inl ⟨by kernel_rfl, ?ym6⟩) (by assumption) ?rm6
          case ym6 => (intro wq hSw; (try dsimp only at hSw); go_simp; (try with_reducible rfl))
          (try simp only [Act.put, List.getElem_toArray, List.getElem_cons_succ, List.getElem_cons_zero, List.setIfInBounds_toArray, List.set_cons_zero, List.set_cons_succ])
          refine wpAnyH_take (i := 7) (v := ?vm7) rfl (by kernel_rfl) (by kernel_rfl) (by kernel_rfl) (fun _ _ _ h => h) (Or.inl ⟨by kernel_rfl, ?ym7⟩) (by assumption) ?rm7
          case ym7 => (intro wq hSw; (try dsimp only at hSw); go_simp; (try with_reducible rfl))
          (try simp only [Act.put, List.getElem_toArray, List.getElem_cons_succ, List.getElem_cons_zero, List.setIfInBounds_toArray, List.set_cons_zero, List.set_cons_succ])
          refine wpAnyH_take (i := 8) (v := ?vm8) rfl (by kernel_rfl) (by kernel_rfl) (by kernel_rfl) (fun _ _ _ h => h) (Or.inl ⟨by kernel_rfl, ?ym8⟩) (by assumption) ?rm8
          case ym8 => (intro wq hSw; (try dsimp only at hSw); go_simp; (try with_reducible rfl))
          (try simp only [Act.put, List.getElem_toArray, List.getElem_cons_succ, List.getElem_cons_zero, List.setIfInBounds_toArray, List.set_cons_zero, List.set_cons_succ])
          refine wpAnyH_take (i := 9) (v := ?vm9) rfl (by kernel_rfl) (by kernel_rfl) (by kernel_rfl) (fun _ _ _ h => h) (Or.inl ⟨by kernel_rfl, ?ym9⟩) (by assumption) ?rm9
          case ym9 => (intro wq hSw; (try dsimp only at hSw); go_simp; (try with_reducible rfl))
          (try simp only [Act.put, List.getElem_toArray, List.getElem_cons_succ, List.getElem_cons_zero, List.setIfInBounds_toArray, List.set_cons_zero, List.set_cons_succ])
          refine wpAnyH_take (i := 10) (v := ?vm10) rfl (by kernel_rfl) (by kernel_rfl) (by kernel_rfl) (fun _ _ _ h => h) (Or.inl ⟨by kernel_rfl, ?ym10⟩) (by assumption) ?rm10
          case ym10 => (intro wq hSw; (try dsimp only at hSw); go_simp; (try with_reducible rfl))
          (try simp only [Act.put, List.getElem_toArray, List.getElem_cons_succ, List.getElem_cons_zero, List.setIfInBounds_toArray, List.set_cons_zero, List.set_cons_succ])
          refine wpAnyH_take (i := 11) (v := ?vm11) rfl (by kernel_rfl) (by kernel_rfl) (by kernel_rfl) (fun _ _ _ h => h) (Or.inl ⟨by kernel_rfl, ?ym11⟩) (by assumption) ?rm11
          case ym11 => (intro wq hSw; (try dsimp only at hSw); go_simp; (try with_reducible rfl))
          (try simp only [Act.put, List.getElem_toArray, List.getElem_cons_succ, List.getElem_cons_zero, List.setIfInBounds_toArray, List.set_cons_zero, List.set_cons_succ])
          refine wpAnyH_take (i := 12) (v := ?vm12) rfl (by kernel_rfl) (by kernel_rfl) (by kernel_rfl) (fun _ _ _ h => h) (Or.inl ⟨by kernel_rfl, ?ym12⟩) (by assumption) ?rm12
          case ym12 => (intro wq hSw; (try dsimp only at hSw); go_simp; (try with_reducible rfl))
          (try simp only [Act.put, List.getElem_toArray, List.getElem_cons_succ, List.getElem_cons_zero, List.setIfInBounds_toArray, List.set_cons_zero, List.set_cons_succ])
          refine wpAnyH_ready (rs := [13]) (by kernel_rfl) (by simp) ?_
          refine AllReadyH.cons rfl (fun K hK => ?_) AllReadyH.nil
          go_simp; have DE := Lib.hid (DS.out.put HP.out a b c d).drew
          refine hK.out _ _ (by exact ⟨DE.out.c0, DE.out.c1, DE.out.c2, DE.out.c3⟩) (fun hHeld => ?_)
          clear hK K
          (try simp only [Act.put, List.getElem_toArray, List.getElem_cons_succ, List.getElem_cons_zero, List.setIfInBounds_toArray, List.set_cons_zero, List.set_cons_succ])
          refine wpAnyH_take (i := 14) (v := ?vm14) rfl (by kernel_rfl) (by kernel_rfl) (by kernel_rfl) (fun _ _ _ h => h) (Or.inl ⟨by kernel_rfl, ?ym14⟩) (by assumption) ?rm14
          case ym14 => (intro wq hSw; (try dsimp only at hSw); go_simp; (try with_reducible rfl))
          (try simp only [Act.put, List.getElem_toArray, List.getElem_cons_succ, List.getElem_cons_zero, List.setIfInBounds_toArray, List.set_cons_zero, List.set_cons_succ])
          refine wpAnyH_done (by kernel_rfl) ?_ _
          refine NoPanic.normal ?_
          go_wp2_with fail
          go_meet
          exact ⟨rfl, DE.out.t, DE.out.be⟩
        case rest =>
          obtain ⟨rfl, X1, X2⟩ := hcut
          rename_i K2 aK2
          refine aK2 _ _ ?_
          refine wp_ret ?_
          (try simp only [Exit.then])
          exact bodyPost_ret (res_strut rfl _ rfl rfl X1) rfl ⟨rfl, X2⟩
theorem strut_c (s : ByteArray) (w : World) (hs : s.size ≤ 1048576) : Calls Tryd.prog 22 #[.string s] w fun e w' => e = .returned (.tuple #[strL (NL s), .bool (strOk (NL s))]) ∧ Below w.heap.size w w' := by
  by_cases h : stOf (NL s)
  · obtain ⟨a, b, c, d, r, hl, hr⟩ := stOf_open h
    exact strut_yes s w hs a b c d r hl hr
  · rw [strL_no (strOk_not h), strOk_not h]
    exact strut_no s w hs h
end At
end Go.Proofs.YthppjmhocmppfaaDoor
