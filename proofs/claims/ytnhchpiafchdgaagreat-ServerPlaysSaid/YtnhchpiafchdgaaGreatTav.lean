/- Texts SuC SuD. -/
import Derived.Test.YtnhchpiafchdgaaGreatTau
import Derived.BigQuiet
import Derived.Test.YtnhchpiafchdgaaGreatTaa
namespace Go.Proofs.YtnhchpiafchdgaaGreat
open Go.RowKit Go.Shelf Go.Maps
section
variable {w w' w0 : World} {r : Nat} {Z : Zl} {X : Xs} {k : Nat}
set_option maxRecDepth 100000 in
set_option maxHeartbeats 4000000 in
theorem rchange_c (h : Ref w0 r Z X) (hb : Below w0.heap.size w0 w) {sv : Value} {R' : RT} {L' : List Win} (ho : RO w sv L') (er : Int) :
   Calls Tryz.prog 56 #[refP r, refV R' sv, .int .i64 er] w fun ex w' => ex = .returned (.int .i64 er) ∧ RefTo w0 r Z (if er = 0 then { X with R := R', L := L' } else X) w' := by
 obtain ⟨wb, hwb⟩ : ∃ wb, wb = w.alloc (.cells #[.int .i64 R'.x, .int .i64 R'.y, .int .i64 R'.w, .int .i64 R'.h, .int .i64 R'.last, sv] 54) := ⟨_, rfl⟩
 have hbel : Below w.heap.size w wb := by rw [hwb]; exact (Below.refl _ _).alloc (Nat.le_refl _) _
 have hbx : Blk wb w.heap.size 54 #[.int .i64 R'.x, .int .i64 R'.y, .int .i64 R'.w, .int .i64 R'.h, .int .i64 R'.last, sv] := by rw [hwb]; exact Blk.new w _ _
 obtain ⟨p, c, hsv⟩ := OwK.slice ho
 subst hsv
 have hB := hbel.on hb hb.size
 have hs := h.next hB
 have ho' : RO wb (.slice p L'.length c) L' := OwK.below ho hbel
 obtain ⟨b0, b1, b2, b3, b4, b5, -, -, -, -, -⟩ := hs.blk.at11
 obtain ⟨f0, f1, f2, f3, f4, f5⟩ := (show _ ∧ _ ∧ _ ∧ _ ∧ _ ∧ _ from ⟨hs.blk.frozen 0, hs.blk.frozen 1, hs.blk.frozen 2, hs.blk.frozen 3, hs.blk.frozen 4, hs.blk.frozen 5⟩)
 obtain ⟨x0, x1, x2, x3, x4, x5⟩ := (show _ ∧ _ ∧ _ ∧ _ ∧ _ ∧ _ from ⟨hbx.at_ (i := 0) rfl, hbx.at_ (i := 1) rfl, hbx.at_ (i := 2) rfl, hbx.at_ (i := 3) rfl, hbx.at_ (i := 4) rfl, hbx.at_ (i := 5) rfl⟩)
 have HW := Lib.hid hwb
 by_cases he : er = 0
 · subst he
   rw [if_pos rfl]
   have HQ := Lib.hid (h.putT (R' := R') hB ho')
   clear h hs ho ho' hbx hbel hB hb
   go_enter Tryz.func56, Tryz.ntmps56
   go_upto_region 1 with fail
   rw [← HW.out]
   clear hwb
   go_wp2_with fail
   go_ret
   exact ⟨rfl, HQ.out⟩
 · rw [if_neg he]
   have he' : (er == 0) = false := by simpa using he
   have HQ := Lib.hid (RefTo.same h hB)
   clear h hs ho ho' hbx hbel hB hb he
   go_enter Tryz.func56, Tryz.ntmps56
   go_upto_region 1 with fail
   rw [← HW.out]
   clear hwb
   go_wp2_with fail
   go_ret
   exact ⟨rfl, HQ.out⟩
set_option maxRecDepth 100000 in
set_option maxHeartbeats 4000000 in
theorem rlook_c (h : Ref w r Z X) {m : Nat} (hS : Sane X.R X.L m) (hi : I64 X.F) : Calls Tryz.prog 61 #[refP r] w fun ex w' => ex = .returned (.tuple #[]) ∧ RefTo w r Z X.look w' := by
 obtain ⟨b0, b1, b2, b3, b4, b5, -, -, b8, -, -⟩ := h.blk.at11
 have f8 := h.blk.frozen 8
 by_cases h0 : X.F = 0
 · have HQ := Lib.hid (fun W (hW : Below w.heap.size w W) => (show RefTo w r Z X.look W from by
    unfold Xs.look; rw [if_neg (fun hh => hh.1 h0)]; exact RefTo.same h hW))
   rw [h0] at b8
   clear h hS hi h0
   go_enter Tryz.func61, Tryz.ntmps61
   go_upto_region 0 with fail
   go_quiet (fail)
   go_wp2_with fail
   go_end0
   exact ⟨rfl, HQ.out _ (below_drewN (Below.refl _ _) _)⟩
 · have h0' : (X.F != 0) = true := by simpa using h0
   have HV := Lib.hid (fun W (hW : Below w.heap.size w W) => (show Calls Tryz.prog 42 #[refV X.R Z.lv, .int .i64 X.F] W fun e w' => e = .returned (.bool (viewL X.R X.L X.F)) ∧ Below W.heap.size W w' from
    (shows_all hS hi).rview W Z.lv (RO.rd (h.next hW).l)))
   obtain ⟨p, c, hlv⟩ := h.l.slice
   rw [hlv] at b5 HV
   have HLV := Lib.hid hlv
   have HR := Lib.hid h
   cases hv : viewL X.R X.L X.F with
   | true =>
    have HQ := Lib.hid (fun W (hW : Below w.heap.size w W) => (show RefTo w r Z X.look W from by
     unfold Xs.look; rw [if_neg (fun hh => by rw [hv] at hh; exact absurd hh.2 (by decide))]; exact RefTo.same h hW))
    rw [hv] at HV
    clear h hS hi hv hlv
    go_enter Tryz.func61, Tryz.ntmps61
    go_upto_region 0 with fail
    refine wp_region_noPanic ?_
    refine wp_region_held_drew (S := fun wx => wx.cell? ⟨r, 0, none⟩ = some (.int .i64 X.R.x) ∧ wx.cell? ⟨r, 1, none⟩ = some (.int .i64 X.R.y) ∧ wx.cell? ⟨r, 2, none⟩ = some (.int .i64 X.R.w) ∧ wx.cell? ⟨r, 3, none⟩ = some (.int .i64 X.R.h) ∧ wx.cell? ⟨r, 4, none⟩ = some (.int .i64 X.R.last) ∧ wx.cell? ⟨r, 5, none⟩ = some (.slice p X.L.length c) ∧ wx.cell? ⟨r, 8, none⟩ = some (.int .i64 X.F)) (by kernel_rfl) (by exact ⟨b0, b1, b2, b3, b4, b5, b8⟩) (fun hHeld => ?_)
    refine tk 0 ?v0 rfl ?y0 ?r0
    case y0 => (intro q h; (try dsimp only at h); go_simp; (try with_reducible rfl))
    (try simp only [Act.put, p1, p3, p4, p5, p6])
    refine tk 1 ?v1 rfl ?y1 ?r1
    case y1 => (intro q h; (try dsimp only at h); go_simp; (try with_reducible rfl))
    (try simp only [Act.put, p1, p2, p3, p4, p5, p6])
    refine tk 2 ?v2 rfl ?y2 ?r2
    case y2 => (intro q h; (try dsimp only at h); go_simp; (try with_reducible rfl))
    (try simp only [Act.put, p1, p2, p3, p4, p5, p6])
    refine tk 3 ?v3 rfl ?y3 ?r3
    case y3 => (intro q h; (try dsimp only at h); go_simp; (try with_reducible rfl))
    (try simp only [Act.put, p1, p2, p3, p4, p5, p6])
    refine tk 4 ?v4 rfl ?y4 ?r4
    case y4 => (intro q h; (try dsimp only at h); go_simp; (try with_reducible rfl))
    (try simp only [Act.put, p1, p2, p3, p4, p5, p6])
    refine tk 5 ?v5 rfl ?y5 ?r5
    case y5 => (intro q h; (try dsimp only at h); go_simp; (try with_reducible rfl))
    (try simp only [Act.put, p1, p2, p3, p4, p5, p6])
    refine tk 6 ?v6 rfl ?y6 ?r6
    case y6 => (intro q h; (try dsimp only at h); go_simp; (try with_reducible rfl))
    (try simp only [Act.put, p1, p2, p3, p4, p5, p6])
    refine tk 7 ?v7 rfl ?y7 ?r7
    case y7 => (intro q h; (try dsimp only at h); go_simp; (try with_reducible rfl))
    (try simp only [Act.put, p1, p2, p3, p4, p5, p6])
    refine tk 8 ?v8 rfl ?y8 ?r8
    case y8 => (intro q h; (try dsimp only at h); go_simp; (try with_reducible rfl))
    (try simp only [Act.put, p1, p2, p3, p4, p5, p6])
    refine tk 9 ?v9 rfl ?y9 ?r9
    case y9 => (intro q h; (try dsimp only at h); go_simp; (try with_reducible rfl))
    (try simp only [Act.put, p1, p2, p3, p4, p5, p6])
    refine tk 10 ?v10 rfl ?y10 ?r10
    case y10 => (intro q h; (try dsimp only at h); go_simp; (try with_reducible rfl))
    (try simp only [Act.put, p1, p2, p3, p4, p5, p6])
    refine tk 11 ?v11 rfl ?y11 ?r11
    case y11 => (intro q h; (try dsimp only at h); go_simp; (try with_reducible rfl))
    (try simp only [Act.put, p1, p2, p3, p4, p5, p6])
    refine tk 12 ?v12 rfl ?y12 ?r12
    case y12 => (intro q h; (try dsimp only at h); go_simp; (try with_reducible rfl))
    (try simp only [Act.put, p1, p2, p3, p4, p5, p6])
    refine tk 13 ?v13 rfl ?y13 ?r13
    case y13 => (intro q h; (try dsimp only at h); go_simp; (try with_reducible rfl))
    (try simp only [Act.put, p1, p2, p3, p4, p5, p6])
    refine wpAnyH_ready (rs := [14]) (by kernel_rfl) (by simp) ?_
    refine AllReadyH.cons rfl (fun K hK => ?_) AllReadyH.nil
    go_simp
    refine (HV.out _ (Below.refl _ _).drew).mono ?_
    rintro ex w4 ⟨rfl, T2⟩; have HB := Lib.hid (T2.on (Below.refl w.heap.size w).drew (Below.refl w.heap.size w).drew.size); clear T2; obtain ⟨y0, y1, y2, y3, y4, y5, -, -, y8, -, -⟩ := (HR.out.next HB.out).blk.at11; rw [HLV.out] at y5; have S1 := And.intro y0 (And.intro y1 (And.intro y2 (And.intro y3 (And.intro y4 (And.intro y5 y8)))))
    (try dsimp only)
    refine hK.out _ _ (by exact S1) (fun hHeld => ?_)
    clear hK K
    (try simp only [Act.put, p1, p2, p3, p4, p5, p6])
    refine tk 15 ?v15 rfl ?y15 ?r15
    case y15 => (intro q h; (try dsimp only at h); go_simp; (try with_reducible rfl))
    (try simp only [Act.put, p1, p2, p3, p4, p5, p6])
    refine tk 16 ?v16 rfl ?y16 ?r16
    case y16 => (intro q h; (try dsimp only at h); go_simp; (try with_reducible rfl))
    (try simp only [Act.put, p1, p2, p3, p4, p5, p6])
    refine wpAnyH_done (by kernel_rfl) ?_ _
    refine NoPanic.normal ?_
    go_wp2_with fail
    go_end0
    exact ⟨rfl, HQ.out _ HB.out⟩
   | false =>
    have HQ := Lib.hid (fun W (hW : Below w.heap.size w W) => (show RefTo w r Z X.look (W.setCell ⟨r, 8, none⟩ (.int .i64 0)) from by
     unfold Xs.look; rw [if_pos ⟨h0, hv⟩]
     exact RefTo.after hW ((h.next hW).cell 8 _ (X' := { X with F := 0 }) rfl rfl rfl rfl rfl)))
    rw [hv] at HV
    clear h hS hi hv hlv
    go_enter Tryz.func61, Tryz.ntmps61
    go_upto_region 0 with fail
    refine wp_region_noPanic ?_
    refine wp_region_held_drew (S := fun wx => wx.cell? ⟨r, 0, none⟩ = some (.int .i64 X.R.x) ∧ wx.cell? ⟨r, 1, none⟩ = some (.int .i64 X.R.y) ∧ wx.cell? ⟨r, 2, none⟩ = some (.int .i64 X.R.w) ∧ wx.cell? ⟨r, 3, none⟩ = some (.int .i64 X.R.h) ∧ wx.cell? ⟨r, 4, none⟩ = some (.int .i64 X.R.last) ∧ wx.cell? ⟨r, 5, none⟩ = some (.slice p X.L.length c) ∧ wx.cell? ⟨r, 8, none⟩ = some (.int .i64 X.F)) (by kernel_rfl) (by exact ⟨b0, b1, b2, b3, b4, b5, b8⟩) (fun hHeld => ?_)
    refine tk 0 ?vb0 rfl ?yb0 ?rb0
    case yb0 => (intro q h; (try dsimp only at h); go_simp; (try with_reducible rfl))
    (try simp only [Act.put, p1, p3, p4, p5, p6])
    refine tk 1 ?vb1 rfl ?yb1 ?rb1
    case yb1 => (intro q h; (try dsimp only at h); go_simp; (try with_reducible rfl))
    (try simp only [Act.put, p1, p2, p3, p4, p5, p6])
    refine tk 2 ?vb2 rfl ?yb2 ?rb2
    case yb2 => (intro q h; (try dsimp only at h); go_simp; (try with_reducible rfl))
    (try simp only [Act.put, p1, p2, p3, p4, p5, p6])
    refine tk 3 ?vb3 rfl ?yb3 ?rb3
    case yb3 => (intro q h; (try dsimp only at h); go_simp; (try with_reducible rfl))
    (try simp only [Act.put, p1, p2, p3, p4, p5, p6])
    refine tk 4 ?vb4 rfl ?yb4 ?rb4
    case yb4 => (intro q h; (try dsimp only at h); go_simp; (try with_reducible rfl))
    (try simp only [Act.put, p1, p2, p3, p4, p5, p6])
    refine tk 5 ?vb5 rfl ?yb5 ?rb5
    case yb5 => (intro q h; (try dsimp only at h); go_simp; (try with_reducible rfl))
    (try simp only [Act.put, p1, p2, p3, p4, p5, p6])
    refine tk 6 ?vb6 rfl ?yb6 ?rb6
    case yb6 => (intro q h; (try dsimp only at h); go_simp; (try with_reducible rfl))
    (try simp only [Act.put, p1, p2, p3, p4, p5, p6])
    refine tk 7 ?vb7 rfl ?yb7 ?rb7
    case yb7 => (intro q h; (try dsimp only at h); go_simp; (try with_reducible rfl))
    (try simp only [Act.put, p1, p2, p3, p4, p5, p6])
    refine tk 8 ?vb8 rfl ?yb8 ?rb8
    case yb8 => (intro q h; (try dsimp only at h); go_simp; (try with_reducible rfl))
    (try simp only [Act.put, p1, p2, p3, p4, p5, p6])
    refine tk 9 ?vb9 rfl ?yb9 ?rb9
    case yb9 => (intro q h; (try dsimp only at h); go_simp; (try with_reducible rfl))
    (try simp only [Act.put, p1, p2, p3, p4, p5, p6])
    refine tk 10 ?vb10 rfl ?yb10 ?rb10
    case yb10 => (intro q h; (try dsimp only at h); go_simp; (try with_reducible rfl))
    (try simp only [Act.put, p1, p2, p3, p4, p5, p6])
    refine tk 11 ?vb11 rfl ?yb11 ?rb11
    case yb11 => (intro q h; (try dsimp only at h); go_simp; (try with_reducible rfl))
    (try simp only [Act.put, p1, p2, p3, p4, p5, p6])
    refine tk 12 ?vb12 rfl ?yb12 ?rb12
    case yb12 => (intro q h; (try dsimp only at h); go_simp; (try with_reducible rfl))
    (try simp only [Act.put, p1, p2, p3, p4, p5, p6])
    refine tk 13 ?vb13 rfl ?yb13 ?rb13
    case yb13 => (intro q h; (try dsimp only at h); go_simp; (try with_reducible rfl))
    (try simp only [Act.put, p1, p2, p3, p4, p5, p6])
    refine wpAnyH_ready (rs := [14]) (by kernel_rfl) (by simp) ?_
    refine AllReadyH.cons rfl (fun K hK => ?_) AllReadyH.nil
    go_simp
    refine (HV.out _ (Below.refl _ _).drew).mono ?_
    rintro ex w4 ⟨rfl, T2⟩; have HB := Lib.hid (T2.on (Below.refl w.heap.size w).drew (Below.refl w.heap.size w).drew.size); clear T2; have f9 := (HR.out.next HB.out).blk.frozen 8; obtain ⟨y0, y1, y2, y3, y4, y5, -, -, y8, -, -⟩ := (HR.out.next HB.out).blk.at11; rw [HLV.out] at y5; have S1 := And.intro y0 (And.intro y1 (And.intro y2 (And.intro y3 (And.intro y4 (And.intro y5 y8)))))
    (try dsimp only)
    refine hK.out _ _ (by exact S1) (fun hHeld => ?_)
    clear hK K
    (try simp only [Act.put, p1, p2, p3, p4, p5, p6])
    refine tk 15 ?vb15 rfl ?yb15 ?rb15
    case yb15 => (intro q h; (try dsimp only at h); go_simp; (try with_reducible rfl))
    (try simp only [Act.put, p1, p2, p3, p4, p5, p6])
    refine tk 16 ?vb16 rfl ?yb16 ?rb16
    case yb16 => (intro q h; (try dsimp only at h); go_simp; (try with_reducible rfl))
    (try simp only [Act.put, p1, p2, p3, p4, p5, p6])
    refine wpAnyH_done (by kernel_rfl) ?_ _
    refine NoPanic.normal ?_
    go_wp2_with fail
    go_end0
    exact ⟨rfl, HQ.out _ HB.out⟩
end
end Go.Proofs.YtnhchpiafchdgaaGreat
namespace Go.Proofs.YtnhchpiafchdgaaGreat
open Go.RowKit Go.Shelf Go.Maps
theorem madInfo : (Tryz.prog.info? 99).map (fun i => (i.zero, i.size, i.bytes)) = some (some (.agg #[.int .i64 0, .int .i64 0, .bool false]), 3, 24) := by kernel_rfl
theorem flatM_one (L : List Md) : ∀ q ∈ L.flatMap encM, q.oneCell' = true := fun q hq => by
 obtain ⟨v, _, hv⟩ := List.mem_flatMap.1 hq
 simp only [encM, List.mem_cons, List.not_mem_nil, or_false] at hv
 rcases hv with rfl | rfl | rfl <;> rfl
theorem own_zeroM {w : World} {g B : Nat} (h : Blk w g 99 #[]) (hB : B ≤ g) : w.ownsRow B 99 3 (.slice (some ⟨g, 0, none⟩) 0 0) 0 [] :=
 ⟨rfl, .inr ⟨g, 0, _, rfl, hB, h, Nat.le_refl _, by decide, rfl, rfl⟩⟩
theorem own_oneM {w : World} {g : Nat} {v : Md} (h : Blk w g 99 #[.int .i64 v.win, .int .i64 v.own, .bool v.sav]) : OwK encM 99 3 w g (.slice (some ⟨g, 0, none⟩) 1 1) [v] :=
 ⟨rfl, .inr ⟨g, 1, _, rfl, Nat.le_refl _, h, Nat.le_refl _, by decide, rfl, rfl⟩⟩
theorem flatM_set (rs : List Md) : ∀ (j : Nat) (v : Md) (on : Bool), rs[j]? = some v → (rs.set j ⟨v.win, v.own, on⟩).flatMap encM = (rs.flatMap encM).set (j * 3 + 2) (.bool on) := by
 induction rs with
 | nil => intro j v on h; simp at h
 | cons a t ih =>
  intro j v on h
  cases j with
  | zero =>
   obtain rfl : a = v := by simpa using h
   simp [List.flatMap_cons, encM]
  | succ j =>
   have h2 := ih j v on (by simpa using h)
   rw [List.set_cons_succ, List.flatMap_cons, List.flatMap_cons, h2]
   rw [show (j + 1) * 3 + 2 = (encM a).length + (j * 3 + 2) by rw [encM_len]; omega, List.set_append_right _ _ (Nat.le_add_right _ _), Nat.add_sub_cancel_left]
theorem OwK.mad_set {w : World} {base g cap j : Nat} {rs : List Md} {v : Md} (on : Bool) (hj : rs[j]? = some v) (h : OwK encM 99 3 w base (.slice (some ⟨g, 0, none⟩) rs.length cap) rs) :
  OwK encM 99 3 (w.setCell ⟨g, j * 3 + 2, none⟩ (.bool on)) base (.slice (some ⟨g, 0, none⟩) rs.length cap) (rs.set j ⟨v.win, v.own, on⟩) := by
 obtain ⟨h1, -⟩ := World.ownsRow.stored h (j * 3 + 2) (.bool on)
 unfold OwK
 rw [List.length_set, flatM_set rs j v on hj]
 exact h1
theorem mad_cells {w : World} {B g cap k n : Nat} {L : List Md} {v : Md} (h : OwK encM 99 3 w B (.slice (some ⟨g, 0, none⟩) n cap) L) (hv : L[k]? = some v) :
  w.cell? ⟨g, k * 3, none⟩ = some (.int .i64 v.win) ∧ w.cell? ⟨g, k * 3 + 1, none⟩ = some (.int .i64 v.own) ∧ w.cell? ⟨g, k * 3 + 2, none⟩ = some (.bool v.sav) ∧ w.frozen? ⟨g, k * 3 + 2, none⟩ = false := by
 obtain ⟨g', cap', e, -, -, hc, hf⟩ := OwK.form encM_len h (fun h => by rw [h] at hv; simp at hv)
 injection e with e1 _ _
 injection e1 with e1
 injection e1 with e1 _ _
 subst e1
 exact ⟨hc k v 0 _ hv rfl, hc k v 1 _ hv rfl, hc k v 2 _ hv rfl, hf _⟩
def mixM (i : Int) (on : Bool) (k : Nat) (M : List Md) : List Md := setSav i on (M.take k) ++ M.drop k
theorem mixM_len (i : Int) (on : Bool) (k : Nat) (M : List Md) : (mixM i on k M).length = M.length := by
 unfold mixM setSav; rw [List.length_append, List.length_map, List.length_take, List.length_drop]; omega
theorem mixM_at {i : Int} {on : Bool} {k : Nat} {M : List Md} {v : Md} (h : M[k]? = some v) : (mixM i on k M)[k]? = some v := by
 have hk := (List.getElem?_eq_some_iff.1 h).1
 unfold mixM setSav
 have hl : (List.map (fun m : Md => if m.win = i then ⟨m.win, m.own, on⟩ else m) (M.take k)).length = k := by rw [List.length_map, List.length_take]; omega
 rw [List.getElem?_append_right (by rw [hl]; exact Nat.le_refl _), hl, Nat.sub_self, List.getElem?_drop, Nat.add_zero, h]
theorem mixM_next {i : Int} {on : Bool} {k : Nat} {M : List Md} {v : Md} (h : M[k]? = some v) : mixM i on (k + 1) M = (mixM i on k M).set k (if v.win = i then ⟨v.win, v.own, on⟩ else v) := by
 have hk := (List.getElem?_eq_some_iff.1 h).1
 unfold mixM setSav
 have hl : (List.map (fun m : Md => if m.win = i then ⟨m.win, m.own, on⟩ else m) (M.take k)).length = k := by rw [List.length_map, List.length_take]; omega
 rw [List.set_append_right _ _ (by rw [hl]; exact Nat.le_refl _), hl, Nat.sub_self, List.take_add_one, h, List.map_append, List.append_assoc]
 congr 1
 rw [List.drop_eq_getElem_cons hk, (List.getElem?_eq_some_iff.1 h).2]
 simp
theorem mixM_end (i : Int) (on : Bool) (M : List Md) : mixM i on M.length M = setSav i on M := by unfold mixM; rw [List.take_length, List.drop_length, List.append_nil]
theorem set_self {α : Type} {L : List α} {k : Nat} {v : α} (h : L[k]? = some v) : L.set k v = L := by
 obtain ⟨hk, e⟩ := List.getElem?_eq_some_iff.1 h
 rw [← e]; exact List.set_getElem_self hk
section
variable {w w' w0 : World} {r : Nat} {Z : Zl} {X : Xs} {k : Nat}
set_option maxRecDepth 100000 in
set_option maxHeartbeats 8000000 in
theorem rsave_c (h : Ref w r Z X) (hM : X.M.length ≤ 1048576) (i : Int) (on : Bool) :
   Calls Tryz.prog 58 #[refP r, .int .i64 i, .bool on] w fun ex w' => ex = .returned (.int .i64 (X.save i on).1) ∧ RefTo w r Z (X.save i on).2 w' := by
 have HO := Lib.hid (rowner_c h hM i)
 by_cases hp : ownM i X.M ≤ 0
 · rw [show X.save i on = (1, X) from by unfold Xs.save; rw [if_pos hp]]
   have HQ := Lib.hid (RefTo.same h (Below.refl _ _))
   clear h hM
   go_enter Tryz.func58, Tryz.ntmps58
   go_wp2_with (go_at_call 22; ((with_reducible refine (HO.out).mono ?_); rintro e w1 ⟨rfl, rfl⟩))
   go_ret
   exact ⟨rfl, HQ.out⟩
 · rw [show X.save i on = (0, { X with M := setSav i on X.M }) from by unfold Xs.save; rw [if_neg hp]]
   have hne : X.M ≠ [] := fun e => hp (by rw [e]; show (-1 : Int) ≤ 0; decide)
   obtain ⟨-, -, -, -, -, -, -, b7, -, -, -⟩ := h.blk.at11
   obtain ⟨p, c, hmv⟩ := h.m.slice
   obtain ⟨n, hn⟩ : ∃ n, n = X.M.length := ⟨_, rfl⟩
   rw [hmv, ← hn] at b7
   have HM0 := Lib.hid (fun W (hW : Below w.heap.size w W) => (show OwK encM 99 3 W 0 (.slice p n c) X.M from by
    have := (h.next hW).m
    rwa [hmv, ← hn] at this))
   have HR := Lib.hid h
   have HN := Lib.hid hn
   have HNE := Lib.hid hne
   obtain ⟨i0, hi0, hz0, hz1, hz2⟩ := info_parts madInfo
   rw [← hn] at hM
   have hb1 := (Below.refl w.heap.size w).alloc (Nat.le_refl _) (.cells #[] 99)
   have HB1 := Lib.hid hb1
   have hz := own_zeroM (Blk.new w 99 #[]) (Nat.le_refl _)
   have b7' := (h.next hb1).blk.at_ (i := 7) (v := Z.mv) rfl
   rw [hmv, ← hn] at b7'
   clear h hmv hn hne hb1
   go_enter Tryz.func58, Tryz.ntmps58
   go_wp2_with (first
    | (go_at_call 22; ((with_reducible refine (HO.out).mono ?_); rintro e w1 ⟨rfl, rfl⟩))
    | (at_builtin; refine list_app rfl (.tmp 13) (.tmp 17) 56 rfl w.heap.size 99 i0 (.agg #[.int .i64 0, .int .i64 0, .bool false]) 3 24 Tryz.underlying56 hi0 hz0 hz1 hz2 rfl (by decide) _ _ _ rfl hz 0 _ n _ rfl (by have := HM0.out _ HB1.out; unfold OwK at this; rw [← HN.out] at this; exact this) (flatM_one _) (by unfold maxLen; omega) (by omega) HB1.out.size ?_; intro v2 w2 ho2 hg2; have HG := Lib.hid (And.intro ho2 hg2); clear ho2 hg2))
   have hr2 : OwK encM 99 3 w2 w.heap.size v2 X.M := by
    have hh := HG.out.1
    rw [Nat.zero_add, List.nil_append, HN.out] at hh
    exact hh
   have hB2 := below_only HB1.out HG.out.2 HB1.out.size (fun k hk => (World.ownsRow.lt hz k hk).1)
   obtain ⟨g, cap, hv2, hg0, hg1, -, -⟩ := OwK.form encM_len hr2 HNE.out
   rw [← HN.out] at hv2
   subst hv2
   have HR2 := Lib.hid hr2
   have HB2 := Lib.hid hB2
   clear hr2 hB2 hz HG b7 b7'
   go_loopw [8] (fun z wr => ∃ k : Nat, k ≤ n ∧ z = .int .i64 k ∧ OwK encM 99 3 wr w.heap.size (.slice (some ⟨g, 0, none⟩) n cap) (mixM i on k X.M) ∧ Below w.heap.size w wr) (fun z _ => n - (intOf z).toNat)
   case atStart => exact ⟨0, Nat.zero_le _, rfl, by rw [show mixM i on 0 X.M = X.M from rfl]; exact HR2.out, HB2.out⟩
   case round =>
    obtain ⟨k, hk, rfl, hR, hB⟩ := hrel
    have HR3 := Lib.hid hR
    have HB3 := Lib.hid hB
    clear hR hB
    have hi0 : (0 : Int) ≤ (k : Int) := by omega
    by_cases hlt : k < n
    · obtain ⟨v, hv⟩ : ∃ v, X.M[k]? = some v := ⟨_, List.getElem?_eq_getElem (by rw [← HN.out]; exact hlt)⟩
      obtain ⟨c0, c1, c2, c3⟩ := mad_cells HR3.out (mixM_at (i := i) (on := on) hv)
      have HV := Lib.hid hv
      clear hv
      have hi1 : (k : Int) < (n : Int) := by omega
      by_cases hvi : v.win = i
      · have h1 : (v.win == i) = true := by simpa using hvi
        have HP := Lib.hid (show OwK encM 99 3 (wr.setCell ⟨g, k * 3 + 2, none⟩ (.bool on)) w.heap.size (.slice (some ⟨g, 0, none⟩) n cap) (mixM i on (k + 1) X.M) from by
         have hl : n = (mixM i on k X.M).length := by rw [mixM_len]; exact HN.out
         have h2 := HR3.out
         rw [hl] at h2 ⊢
         rw [mixM_next HV.out, if_pos hvi]
         exact OwK.mad_set on (mixM_at HV.out) h2)
        have HBS := Lib.hid (HB3.out.setCell hg0 (p := ⟨g, k * 3 + 2, none⟩) (.bool on))
        clear hvi
        go_wp2_with fail
        go_roundw
        case rel => exact ⟨k + 1, by omega, by go_num, HP.out, HBS.out⟩
        case measure => simp [intOf]; omega
      · have h1 : (v.win == i) = false := by simpa using hvi
        have HP := Lib.hid (show mixM i on (k + 1) X.M = mixM i on k X.M from by rw [mixM_next HV.out, if_neg hvi]; exact set_self (mixM_at HV.out))
        clear hvi
        go_wp2_with fail
        go_roundw
        case rel => exact ⟨k + 1, by omega, by go_num, by rw [HP.out]; exact HR3.out, HB3.out⟩
        case measure => simp [intOf]; omega
    · obtain rfl : k = n := by omega
      have hs := HR.out.next HB3.out
      have b7 := hs.blk.at_ (i := 7) (v := Z.mv) rfl
      have f7 := hs.blk.frozen 7
      have HP := Lib.hid (HR.out.putM HB3.out (OwK.less HR3.out (Nat.zero_le _)))
      rw [HN.out, mixM_end] at HP
      clear hs
      go_wp2_with fail
      go_ret
      exact ⟨rfl, by rw [HN.out]; exact HP.out⟩
end
end Go.Proofs.YtnhchpiafchdgaaGreat
