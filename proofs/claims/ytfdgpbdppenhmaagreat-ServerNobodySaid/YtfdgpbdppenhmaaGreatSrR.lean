/- ServerNobody, walked. -/
import Derived.Test.YtfdgpbdppenhmaaGreatSrQ
import Derived.Test.YtfdgpbdppenhmaaGreatSrT
namespace Go.Proofs.YtfdgpbdppenhmaaGreat
open Go.RowKit Go.Shelf Go.Maps
abbrev zeroS : Array Value := #[.pointer none, .pointer none, .map none, .map none, .slice none 0 0, .int .i64 0, .bool false]
abbrev actA (actor : Int) (q : Rq) : Array Value := #[.int .i64 actor, .int .i64 q.kind, .int .i64 q.win, .int .i64 q.other, .int .i64 q.x, .int .i64 q.y, .int .i64 q.a, .int .i64 q.e, .string q.p.name, .string q.p.typ, .string q.p.data]
/-- What the law keeps: the step's box, the two displays that no call made. -/
structure Sn (w : World) (g tb : Nat) (A : Array Value) (W : World) : Prop where
  box : Blk W g 39 A
  zs : Blk W tb 80 zeroS
  sl : Blk W (tb + 1) 25 #[.pointer none, srvP tb]
  below : Below w.heap.size w W
theorem Sn.next {w W W' : World} {g tb : Nat} {A : Array Value} (h : Sn w g tb A W) (hb : Below W.heap.size W W') : Sn w g tb A W' := ⟨h.box.next hb, h.zs.next hb, h.sl.next hb, hb.on h.below h.below.size⟩
theorem Blk.c11 {w : World} {g : Nat} {t : TypeId} {v0 v1 v2 v3 v4 v5 v6 v7 v8 v9 v10 : Value} (h : Blk w g t #[v0, v1, v2, v3, v4, v5, v6, v7, v8, v9, v10]) :
    w.cell? ⟨g, 0, none⟩ = some v0 ∧ w.cell? ⟨g, 1, none⟩ = some v1 ∧ w.cell? ⟨g, 2, none⟩ = some v2 ∧ w.cell? ⟨g, 3, none⟩ = some v3 ∧ w.cell? ⟨g, 4, none⟩ = some v4 ∧ w.cell? ⟨g, 5, none⟩ = some v5 ∧ w.cell? ⟨g, 6, none⟩ = some v6 ∧ w.cell? ⟨g, 7, none⟩ = some v7 ∧ w.cell? ⟨g, 8, none⟩ = some v8 ∧ w.cell? ⟨g, 9, none⟩ = some v9 ∧ w.cell? ⟨g, 10, none⟩ = some v10 :=
  ⟨h.at_ (i := 0) rfl, h.at_ (i := 1) rfl, h.at_ (i := 2) rfl, h.at_ (i := 3) rfl, h.at_ (i := 4) rfl, h.at_ (i := 5) rfl, h.at_ (i := 6) rfl, h.at_ (i := 7) rfl, h.at_ (i := 8) rfl, h.at_ (i := 9) rfl, h.at_ (i := 10) rfl⟩
/-- Events of what no call made: all is as it was. -/
theorem events_sn {w W : World} {g tb : Nat} {A : Array Value} {p : Value} (h : Sn w g tb A W) (hg : w.heap.size ≤ tb) (hp : p = .pointer none ∨ p = srvP tb) : Calls Tryz.prog 24 #[p] W fun ex w' => ex = .returned (.slice none 0 0) ∧ Sn w g tb A w' ∧ (∀ b T cs, Blk W b T cs → T ≠ 80 → Blk w' b T cs) := by
  rcases hp with rfl | rfl
  · refine (events_no (w := W) (p := .pointer none) (.inl rfl)).mono fun ex w' hh => ⟨hh.1, ?_⟩
    rcases hh.2 with ⟨-, rfl⟩ | ⟨s, e, -⟩
    · exact ⟨h, fun b T cs hb _ => hb⟩
    · cases e
  · refine (events_no (w := W) (p := srvP tb) (.inr ⟨tb, rfl, h.zs⟩)).mono fun ex w' hh => ⟨hh.1, ?_⟩
    rcases hh.2 with ⟨e, -⟩ | ⟨s, e, hb, rfl⟩
    · cases e
    · obtain rfl : tb = s := by simpa using e
      have h1 : Blk (W.setCell ⟨tb, 4, none⟩ (.slice none 0 0)) tb 80 zeroS := hb.set_ 4 (.slice none 0 0)
      have hne : ∀ b T cs, Blk W b T cs → T ≠ 80 → b ≠ tb := fun b T cs hx hT => hx.ne_ hb hT
      exact ⟨⟨h.box.far (hne _ _ _ h.box (by decide)) _, h1, h.sl.far (hne _ _ _ h.sl (by decide)) _, h.below.setCell hg _⟩, fun b T cs hx hT => hx.far (hne b T cs hx hT) _⟩
theorem get0 {w : World} {p : Value} (h : NoSrv w p) {i : Int} (hi : I64 i) : Calls Tryz.prog 21 #[p, .int .i64 i] w fun e w' => e = .returned (.tuple #[.agg #[.int .i64 0, .int .i64 0, .int .i64 0, .int .i64 0, .int .i64 0, .int .i64 0, .bool false], .bool false]) ∧ Below w.heap.size w w' := sget_no h hi
theorem prop0 {w : World} {p : Value} (h : NoSrv w p) {i : Int} (hi : I64 i) {n : ByteArray} (hn : n.size ≤ maxLen) : Calls Tryz.prog 28 #[p, .int .i64 i, .string n] w fun e w' => e = .returned (.tuple #[.agg #[.string ⟨#[]⟩, .string ⟨#[]⟩, .string ⟨#[]⟩], .bool false]) ∧ Below w.heap.size w w' := sprop_no h hi hn
theorem kids0 {w : World} {p : Value} (h : NoSrv w p) : Calls Tryz.prog 26 #[p, .int .i64 0] w fun e w' => ∃ q c, e = .returned (.slice q 0 c) ∧ Below w.heap.size w w' :=
  (skids_no h i64_zero).mono fun e w' ⟨v, h1, ⟨q, c, h2, _⟩, h3⟩ => ⟨q, c, by rw [h1, h2]; rfl, h3⟩
set_option maxRecDepth 100000 in
set_option maxHeartbeats 16000000 in
theorem nobody8_w (actor : Int) (q : Rq) (w : World) (hi : I64 q.win) :
    Calls Tryz.prog 7 #[.agg (actA actor q)] w fun e w' => e = .returned (.bool true) ∧ Below w.heap.size w w' := by
  obtain ⟨wb, hwb⟩ : ∃ wb, wb = w.alloc (.cells #[.int .i64 actor, .int .i64 q.kind, .int .i64 q.win, .int .i64 q.other, .int .i64 q.x, .int .i64 q.y, .int .i64 q.a, .int .i64 q.e, .string q.p.name, .string q.p.typ, .string q.p.data] 39) := ⟨_, rfl⟩
  have hbel : Below w.heap.size w wb := by rw [hwb]; exact (Below.refl _ _).alloc (Nat.le_refl _) _
  have hbx : Blk wb w.heap.size 39 (actA actor q) := by rw [hwb]; exact Blk.new w _ _
  have HW := Lib.hid hwb
  have HAW := Lib.hid (fun W => awake8_c W)
  have HX := Lib.hid (And.intro hbx hbel)
  have HI := Lib.hid hi
  have HA1 := Lib.hid (show (⟨#[65]⟩ : ByteArray).size ≤ maxLen by decide +kernel)
  clear hbx hbel hi
  go_enter Tryz.func7, Tryz.ntmps7
  go_upto_region 1 with fail
  rw [← HW.out]
  clear hwb
  go_upto_region 2 with fail
  obtain ⟨tb, htb⟩ : ∃ tb, tb = wb.heap.size := ⟨_, rfl⟩
  have hT : Blk ((wb.alloc (.cells zeroS 80)).alloc (.cells #[.pointer none, srvP wb.heap.size] 25)) wb.heap.size 80 zeroS := (Blk.new wb _ _).alloc _
  have hR : Blk ((wb.alloc (.cells zeroS 80)).alloc (.cells #[.pointer none, srvP wb.heap.size] 25)) (wb.heap.size + 1) 25 #[.pointer none, srvP wb.heap.size] := by
    have := Blk.new (wb.alloc (.cells zeroS 80)) 25 #[.pointer none, srvP wb.heap.size]
    rwa [World.size_alloc] at this
  have hW2 : Below wb.heap.size wb ((wb.alloc (.cells zeroS 80)).alloc (.cells #[.pointer none, srvP wb.heap.size] 25)) := ((Below.refl _ _).alloc (Nat.le_refl _) _).alloc (by simp) _
  have hX2 := HX.out.1.next hW2
  have hB2 := hW2.on HX.out.2 HX.out.2.size
  have htw : w.heap.size ≤ tb := by rw [htb]; exact HX.out.2.size
  rw [← htb] at hT hR hX2 hB2 ⊢
  generalize (wb.alloc (.cells zeroS 80)).alloc (.cells #[.pointer none, srvP tb] 25) = w2 at hT hR hX2 hB2 ⊢
  have HTW := Lib.hid htw
  have HS2 := Lib.hid (And.intro hT (And.intro hR (And.intro hX2 hB2)))
  clear hT hR hW2 htb hX2 hB2 htw
  go_loopw [19] (fun z wr => (z = .int .i64 0 ∨ z = .int .i64 1 ∨ z = .int .i64 2) ∧ Blk wr tb 80 zeroS ∧ Blk wr (tb + 1) 25 #[.pointer none, srvP tb] ∧ Blk wr w.heap.size 39 (actA actor q) ∧ Below w.heap.size w wr) (fun z _ => 2 - (intOf z).toNat)
  case atStart => exact ⟨.inl rfl, HS2.out.1, HS2.out.2.1, HS2.out.2.2.1, HS2.out.2.2.2⟩
  case round =>
    obtain ⟨hz, h1, h2, h3, h4⟩ := hrel
    rcases hz with rfl | rfl | rfl
    · have HN := Lib.hid (fun W (h : Sn w w.heap.size tb (actA actor q) W) => (show NoSrv W (.pointer none) from .inl rfl))
      have HS := Lib.hid (show Sn w w.heap.size tb (actA actor q) wr from ⟨h3, h1, h2, h4⟩)
      obtain ⟨r0, r1⟩ := h2.c2.1
      clear h1 h2 h3 h4
      go_upto_region 4 with fail
      clear r0 r1
      obtain ⟨x0, x1, x2, x3, x4, x5, x6, x7, x8, x9, x10⟩ := HS.out.box.c11
      go_upto_region 5 with (go_at_call 20; ((with_reducible refine (do_no (HN.out _ HS.out) actor q).mono ?_); rintro e w3 ⟨rfl, hb⟩); have HS3 := Lib.hid (HS.out.next hb); clear hb; clear x0 x1 x2 x3 x4 x5 x6 x7 x8 x9 x10; obtain ⟨x0, x1, x2, x3, x4, x5, x6, x7, x8, x9, x10⟩ := HS3.out.box.c11)
      go_upto_region 6 with (go_at_call 21; ((with_reducible refine (get0 (HN.out _ HS3.out) HI.out).mono ?_); rintro e w4 ⟨rfl, hb⟩); have HS4 := Lib.hid (HS3.out.next hb); clear hb)
      have hx5 := Blk.new w4 61 #[.int .i64 0, .int .i64 0, .int .i64 0, .int .i64 0, .int .i64 0, .int .i64 0, .bool false]
      have hb5 := (Below.refl w4.heap.size w4).alloc (Nat.le_refl _) (.cells #[.int .i64 0, .int .i64 0, .int .i64 0, .int .i64 0, .int .i64 0, .int .i64 0, .bool false] 61)
      obtain ⟨g5, hg5⟩ : ∃ g, g = w4.heap.size := ⟨_, rfl⟩
      rw [← hg5] at hx5 ⊢
      generalize w4.alloc (.cells #[.int .i64 0, .int .i64 0, .int .i64 0, .int .i64 0, .int .i64 0, .int .i64 0, .bool false] 61) = w5 at hx5 hb5 ⊢
      have HX5 := Lib.hid hx5
      have HS5 := Lib.hid (HS4.out.next hb5)
      clear hx5 hb5 hg5 x0 x1 x2 x3 x4 x5 x6 x7 x8 x9 x10
      obtain ⟨x0, x1, x2, x3, x4, x5, x6, x7, x8, x9, x10⟩ := HS5.out.box.c11
      go_upto_region 7 with (go_at_call 28; ((with_reducible refine (prop0 (HN.out _ HS5.out) HI.out HA1.out).mono ?_); rintro e w6 ⟨rfl, hb⟩); have HS6 := Lib.hid (HS5.out.next hb); have HX6 := Lib.hid (HX5.out.next hb); clear hb)
      have hx7 := Blk.new w6 35 #[.string ⟨#[]⟩, .string ⟨#[]⟩, .string ⟨#[]⟩]
      have hb7 := (Below.refl w6.heap.size w6).alloc (Nat.le_refl _) (.cells #[.string ⟨#[]⟩, .string ⟨#[]⟩, .string ⟨#[]⟩] 35)
      obtain ⟨g7, hg7⟩ : ∃ g, g = w6.heap.size := ⟨_, rfl⟩
      rw [← hg7] at hx7 ⊢
      generalize w6.alloc (.cells #[.string ⟨#[]⟩, .string ⟨#[]⟩, .string ⟨#[]⟩] 35) = w7 at hx7 hb7 ⊢
      have HX7 := Lib.hid hx7
      have HX5b := Lib.hid (HX6.out.next hb7)
      have HS7 := Lib.hid (HS6.out.next hb7)
      clear hx7 hb7 hg7 x0 x1 x2 x3 x4 x5 x6 x7 x8 x9 x10
      obtain ⟨x0, x1, x2, x3, x4, x5, x6, x7, x8, x9, x10⟩ := HS7.out.box.c11
      go_upto_region 8 with (go_at_call 29; ((with_reducible refine (owner_no (HN.out _ HS7.out) HI.out).mono ?_); rintro e w8 ⟨rfl, rfl⟩))
      go_upto_region 9 with (go_at_call 30; ((with_reducible refine (sabs_no (HN.out _ HS7.out) HI.out).mono ?_); rintro e w8 ⟨rfl, hb⟩); have HS8 := Lib.hid (HS7.out.next hb); have HX7b := Lib.hid (HX7.out.next hb); have HX5c := Lib.hid (HX5b.out.next hb); clear hb)
      have hx9 := Blk.new w8 87 #[.int .i64 0, .int .i64 0]
      have hb9 := (Below.refl w8.heap.size w8).alloc (Nat.le_refl _) (.cells #[.int .i64 0, .int .i64 0] 87)
      obtain ⟨g9, hg9⟩ : ∃ g, g = w8.heap.size := ⟨_, rfl⟩
      rw [← hg9] at hx9 ⊢
      generalize w8.alloc (.cells #[.int .i64 0, .int .i64 0] 87) = w9 at hx9 hb9 ⊢
      have HXS := Lib.hid (And.intro (HX5c.out.next hb9) (And.intro (HX7b.out.next hb9) hx9))
      have HS9 := Lib.hid (HS8.out.next hb9)
      clear hx9 hb9 hg9 x0 x1 x2 x3 x4 x5 x6 x7 x8 x9 x10
      go_wp2_with (first
        | (go_at_call 31; ((with_reducible refine (stop_no (HN.out _ HS9.out)).mono ?_); rintro e w10 ⟨rfl, rfl⟩))
        | (go_at_call 32; ((with_reducible refine (start_no (HN.out _ HS9.out)).mono ?_); rintro e w10 ⟨rfl, rfl⟩))
        | (go_at_call 24; ((with_reducible refine (events_sn HS9.out HTW.out (.inl rfl)).mono ?_); rintro e w11 ⟨rfl, hs, hk⟩); have HS11 := Lib.hid hs; obtain ⟨⟨a0, a1, a2, a3, a4, a5, a6⟩, -⟩ := (hk _ _ _ HXS.out.1 (by decide)).c7; obtain ⟨⟨c0, c1, c2⟩, -⟩ := (hk _ _ _ HXS.out.2.1 (by decide)).c3; obtain ⟨⟨d0, d1⟩, -⟩ := (hk _ _ _ HXS.out.2.2 (by decide)).c2; clear hs hk)
        | (go_at_call 17; ((with_reducible refine (focus_no (HN.out _ HS11.out)).mono ?_); rintro e w12 ⟨rfl, rfl⟩))
        | (go_at_call 26; ((with_reducible refine (kids0 (HN.out _ HS11.out)).mono ?_); rintro e w12 ⟨pk, ck, rfl, hb⟩); have HS12 := Lib.hid (HS11.out.next hb); clear hb)
        | (go_at_call 18; ((with_reducible refine (sview_no (HN.out _ HS12.out) i64_zero).mono ?_); rintro e w13 ⟨rfl, rfl⟩)))
      go_roundw
      case rel => exact ⟨.inr (.inl rfl), HS12.out.zs, HS12.out.sl, HS12.out.box, HS12.out.below⟩
      case measure => simp [intOf]
    · have HN := Lib.hid (fun W (h : Sn w w.heap.size tb (actA actor q) W) => (show NoSrv W (srvP tb) from .inr ⟨tb, rfl, h.zs⟩))
      have HS := Lib.hid (show Sn w w.heap.size tb (actA actor q) wr from ⟨h3, h1, h2, h4⟩)
      obtain ⟨r0, r1⟩ := h2.c2.1
      clear h1 h2 h3 h4
      go_upto_region 4 with fail
      clear r0 r1
      obtain ⟨x0, x1, x2, x3, x4, x5, x6, x7, x8, x9, x10⟩ := HS.out.box.c11
      go_upto_region 5 with (go_at_call 20; ((with_reducible refine (do_no (HN.out _ HS.out) actor q).mono ?_); rintro e w3 ⟨rfl, hb⟩); have HS3 := Lib.hid (HS.out.next hb); clear hb; clear x0 x1 x2 x3 x4 x5 x6 x7 x8 x9 x10; obtain ⟨x0, x1, x2, x3, x4, x5, x6, x7, x8, x9, x10⟩ := HS3.out.box.c11)
      go_upto_region 6 with (go_at_call 21; ((with_reducible refine (get0 (HN.out _ HS3.out) HI.out).mono ?_); rintro e w4 ⟨rfl, hb⟩); have HS4 := Lib.hid (HS3.out.next hb); clear hb)
      have hx5 := Blk.new w4 61 #[.int .i64 0, .int .i64 0, .int .i64 0, .int .i64 0, .int .i64 0, .int .i64 0, .bool false]
      have hb5 := (Below.refl w4.heap.size w4).alloc (Nat.le_refl _) (.cells #[.int .i64 0, .int .i64 0, .int .i64 0, .int .i64 0, .int .i64 0, .int .i64 0, .bool false] 61)
      obtain ⟨g5, hg5⟩ : ∃ g, g = w4.heap.size := ⟨_, rfl⟩
      rw [← hg5] at hx5 ⊢
      generalize w4.alloc (.cells #[.int .i64 0, .int .i64 0, .int .i64 0, .int .i64 0, .int .i64 0, .int .i64 0, .bool false] 61) = w5 at hx5 hb5 ⊢
      have HX5 := Lib.hid hx5
      have HS5 := Lib.hid (HS4.out.next hb5)
      clear hx5 hb5 hg5 x0 x1 x2 x3 x4 x5 x6 x7 x8 x9 x10
      obtain ⟨x0, x1, x2, x3, x4, x5, x6, x7, x8, x9, x10⟩ := HS5.out.box.c11
      go_upto_region 7 with (go_at_call 28; ((with_reducible refine (prop0 (HN.out _ HS5.out) HI.out HA1.out).mono ?_); rintro e w6 ⟨rfl, hb⟩); have HS6 := Lib.hid (HS5.out.next hb); have HX6 := Lib.hid (HX5.out.next hb); clear hb)
      have hx7 := Blk.new w6 35 #[.string ⟨#[]⟩, .string ⟨#[]⟩, .string ⟨#[]⟩]
      have hb7 := (Below.refl w6.heap.size w6).alloc (Nat.le_refl _) (.cells #[.string ⟨#[]⟩, .string ⟨#[]⟩, .string ⟨#[]⟩] 35)
      obtain ⟨g7, hg7⟩ : ∃ g, g = w6.heap.size := ⟨_, rfl⟩
      rw [← hg7] at hx7 ⊢
      generalize w6.alloc (.cells #[.string ⟨#[]⟩, .string ⟨#[]⟩, .string ⟨#[]⟩] 35) = w7 at hx7 hb7 ⊢
      have HX7 := Lib.hid hx7
      have HX5b := Lib.hid (HX6.out.next hb7)
      have HS7 := Lib.hid (HS6.out.next hb7)
      clear hx7 hb7 hg7 x0 x1 x2 x3 x4 x5 x6 x7 x8 x9 x10
      obtain ⟨x0, x1, x2, x3, x4, x5, x6, x7, x8, x9, x10⟩ := HS7.out.box.c11
      go_upto_region 8 with (go_at_call 29; ((with_reducible refine (owner_no (HN.out _ HS7.out) HI.out).mono ?_); rintro e w8 ⟨rfl, rfl⟩))
      go_upto_region 9 with (go_at_call 30; ((with_reducible refine (sabs_no (HN.out _ HS7.out) HI.out).mono ?_); rintro e w8 ⟨rfl, hb⟩); have HS8 := Lib.hid (HS7.out.next hb); have HX7b := Lib.hid (HX7.out.next hb); have HX5c := Lib.hid (HX5b.out.next hb); clear hb)
      have hx9 := Blk.new w8 87 #[.int .i64 0, .int .i64 0]
      have hb9 := (Below.refl w8.heap.size w8).alloc (Nat.le_refl _) (.cells #[.int .i64 0, .int .i64 0] 87)
      obtain ⟨g9, hg9⟩ : ∃ g, g = w8.heap.size := ⟨_, rfl⟩
      rw [← hg9] at hx9 ⊢
      generalize w8.alloc (.cells #[.int .i64 0, .int .i64 0] 87) = w9 at hx9 hb9 ⊢
      have HXS := Lib.hid (And.intro (HX5c.out.next hb9) (And.intro (HX7b.out.next hb9) hx9))
      have HS9 := Lib.hid (HS8.out.next hb9)
      clear hx9 hb9 hg9 x0 x1 x2 x3 x4 x5 x6 x7 x8 x9 x10
      go_wp2_with (first
        | (go_at_call 31; ((with_reducible refine (stop_no (HN.out _ HS9.out)).mono ?_); rintro e w10 ⟨rfl, rfl⟩))
        | (go_at_call 32; ((with_reducible refine (start_no (HN.out _ HS9.out)).mono ?_); rintro e w10 ⟨rfl, rfl⟩))
        | (go_at_call 24; ((with_reducible refine (events_sn HS9.out HTW.out (.inr rfl)).mono ?_); rintro e w11 ⟨rfl, hs, hk⟩); have HS11 := Lib.hid hs; obtain ⟨⟨a0, a1, a2, a3, a4, a5, a6⟩, -⟩ := (hk _ _ _ HXS.out.1 (by decide)).c7; obtain ⟨⟨c0, c1, c2⟩, -⟩ := (hk _ _ _ HXS.out.2.1 (by decide)).c3; obtain ⟨⟨d0, d1⟩, -⟩ := (hk _ _ _ HXS.out.2.2 (by decide)).c2; clear hs hk)
        | (go_at_call 17; ((with_reducible refine (focus_no (HN.out _ HS11.out)).mono ?_); rintro e w12 ⟨rfl, rfl⟩))
        | (go_at_call 26; ((with_reducible refine (kids0 (HN.out _ HS11.out)).mono ?_); rintro e w12 ⟨pk, ck, rfl, hb⟩); have HS12 := Lib.hid (HS11.out.next hb); clear hb)
        | (go_at_call 18; ((with_reducible refine (sview_no (HN.out _ HS12.out) i64_zero).mono ?_); rintro e w13 ⟨rfl, rfl⟩)))
      go_roundw
      case rel => exact ⟨.inr (.inr rfl), HS12.out.zs, HS12.out.sl, HS12.out.box, HS12.out.below⟩
      case measure => simp [intOf]
    · clear h1 h2 h3
      have HB := Lib.hid h4
      clear h4
      go_wp2_with (go_at_call 10; ((with_reducible refine (HAW.out _).mono ?_); rintro e w9 ⟨rfl, hb⟩); have HB9 := Lib.hid (hb.on HB.out HB.out.size); clear hb)
      go_ret
      exact ⟨rfl, HB9.out⟩
theorem nobody8_law (t : A8) (w : World) (hok : t.ok) : Calls Tryz.prog 7 #[.agg ⟨t.cells⟩] w fun e w' => e = .returned (.bool true) ∧ Below w.heap.size w w' := nobody8_w t.actor t.q w hok.win
end Go.Proofs.YtfdgpbdppenhmaaGreat
