/- cons.Find. -/
import Derived.Test.YtjeabkcbaielhaaCpH
import Derived.Test.YtjeabkcbaielhaaCoV
import Derived.BigQuiet
namespace Go.Proofs.Ytjeabkcbaielhaa.Co
open Go.RowKit Go.Shelf
/-- The way to a client, or none. -/
def findI (x : Con) (c : Int) : Option (List Nat) := if treeB x = true then ((waysOf x [c])[0]?).join else none
/-- What Find tells. -/
def FoundR (x : Con) (c : Int) (w : World) (e : Ending) (w' : World) : Prop :=
  Below w.heap.size w w' ∧ ∃ v, e = .returned (.tuple #[v, .bool (findI x c).isSome]) ∧ WayO w' (fun _ => True) (findI x c) v
set_option maxHeartbeats 1000000 in
theorem Find_c (x : Con) (sv : Value) (c : Int) (w : World) (hK : KV w (fun b => b < w.heap.size) x.ks sv) (hw : x.a.wide) (hd : ht x ≤ 1000000) :
    Calls Try.prog 24 #[conV x.a sv, .int .i64 c] w (FoundR x c w) := by
  obtain ⟨p, cap, rfl, hl⟩ := hK.slice
  obtain ⟨n, hn⟩ : ∃ n, n = x.ks.length := ⟨_, rfl⟩
  rw [← hn] at hK ⊢
  obtain ⟨R, hR⟩ : ∃ R, R = FoundR x c w := ⟨_, rfl⟩
  have hRe : ∀ e w', R e w' ↔ FoundR x c w e w' := by rw [hR]; exact fun _ _ => Iff.rfl
  rw [← hR]
  have HR := Lib.hid hRe
  have hb0 := ((Below.refl w.heap.size w).alloc (Nat.le_refl _) (.cells #[.int .i64 x.a.k, .int .i64 x.a.w, .int .i64 x.a.c, .int .i64 x.a.s, .slice p n cap] 24)).alloc (by simp) (.cells #[.int .i64 c] 3)
  have hq3 := Blk.new (w.alloc (.cells #[.int .i64 x.a.k, .int .i64 x.a.w, .int .i64 x.a.c, .int .i64 x.a.s, .slice p n cap] 24)) 3 #[.int .i64 c]
  simp only [World.size_alloc] at hq3
  obtain ⟨wB, hwB⟩ : ∃ wB, wB = (w.alloc (.cells #[.int .i64 x.a.k, .int .i64 x.a.w, .int .i64 x.a.c, .int .i64 x.a.s, .slice p n cap] 24)).alloc (.cells #[.int .i64 c] 3) := ⟨_, rfl⟩
  rw [← hwB] at hb0 hq3
  have HF := Lib.hid (find_c (fun b => b < w.heap.size) x (.slice p n cap) [c] (w.heap.size + 1) wB (hK.next hb0) hw hd (fun b h => by have := hb0.size; omega) (by simp) hq3)
  have HB := Lib.hid hb0
  have HWB := Lib.hid hwB
  clear hn hR hRe hb0 hq3 hwB hK hw hd hl
  go_enter Try.func24, Try.ntmps24
  go_wp2_with fail
  rw [← HWB.out]
  refine HF.out.mono ?_
  rintro e w1 ⟨hb1, ⟨htr, rfl⟩ | ⟨htr, rb, vs, rfl, hrb, hblk, hvl, hvs⟩⟩
  · have HB1 := Lib.hid (HB.out.trans (hb1.mono HB.out.size))
    have HTR := Lib.hid htr
    clear hb1 htr HF
    go_wp2_with fail
    show R (.returned (.tuple #[.slice none 0 0, .bool false])) w1
    refine (HR.out _ _).2 ⟨HB1.out, .slice none 0 0, ?_, ?_⟩
    · unfold findI; rw [if_neg (by rw [HTR.out]; simp)]; rfl
    · unfold findI; rw [if_neg (by rw [HTR.out]; simp)]; rfl
  · have HB1 := Lib.hid (HB.out.trans (hb1.mono HB.out.size))
    obtain ⟨o, ho⟩ : ∃ o, (waysOf x [c])[0]? = some o := ⟨_, List.getElem?_eq_getElem (by rw [waysOf_len]; simp)⟩
    have hI : findI x c = o := by unfold findI; rw [if_pos htr, ho]; rfl
    obtain ⟨v, hv, hwo⟩ := hvs 0 o ho
    have q0 : w1.cell? ⟨rb, 0, none⟩ = some v := hblk.at_ (i := 0) (by simpa using hv)
    have HI := Lib.hid hI
    have HWO := Lib.hid hwo
    have HH : Hid (∃ pv nv cv, v = .slice pv nv cv ∧ pv.isSome = o.isSome) := by
      cases o with
      | none => exact ⟨none, 0, 0, hwo, rfl⟩
      | some u =>
        obtain ⟨vv, j, -, -, hu, -⟩ := waysOf_get htr ho (c := c) rfl
        obtain ⟨pp, cc, h1, _, _, _, _, h5⟩ := hwo
        have : ∃ i, u[0]? = some i := ⟨_, List.getElem?_eq_getElem (by rw [hu]; simp)⟩
        obtain ⟨i, hi⟩ := this
        obtain ⟨b, hb, -⟩ := h5 0 i hi
        exact ⟨pp, _, cc, h1, by rw [hb]; rfl⟩
    clear hb1 htr HF hrb hblk hvl hvs hv hwo hI ho
    obtain ⟨pv, nv, cv, rfl, hpo⟩ := HH.out
    have HPO := Lib.hid hpo
    clear hpo HH
    cases pv with
    | none =>
      go_wp2_with fail
      go_quiet (fail)
      go_wp2_with fail
      show R (.returned (.tuple #[.slice none nv cv, .bool false])) (w1.drewN nq)
      refine (HR.out _ _).2 ⟨below_drewN HB1.out nq, .slice none nv cv, ?_, ?_⟩
      · rw [HI.out, ← HPO.out]; rfl
      · rw [HI.out]; exact HWO.out.same (Nat.le_refl _) fun b _ _ _ => ⟨rfl, trivial⟩
    | some a =>
      go_wp2_with fail
      go_quiet (fail)
      go_wp2_with fail
      show R (.returned (.tuple #[.slice (some a) nv cv, .bool true])) (w1.drewN nq)
      refine (HR.out _ _).2 ⟨below_drewN HB1.out nq, .slice (some a) nv cv, ?_, ?_⟩
      · rw [HI.out, ← HPO.out]; rfl
      · rw [HI.out]; exact HWO.out.same (Nat.le_refl _) fun b _ _ _ => ⟨rfl, trivial⟩
end Go.Proofs.Ytjeabkcbaielhaa.Co
