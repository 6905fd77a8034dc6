/- How many containers there are (few); are two containers the same (the document's Same). -/
import Derived.Test.YtjeabkcbaielhaaCoB
namespace Go.Proofs.Ytjeabkcbaielhaa.Co
open Go.RowKit
mutual
def nodesC : Con → Int → Int
  | .mk _ ks, n => nodesL ks (n + 1)
def nodesL : List Con → Int → Int
  | [], n => n
  | x :: r, n => if n ≤ 500 then nodesL r (nodesC x n) else n
end
theorem nodesL_past : ∀ (l : List Con) (n : Int), 500 < n → nodesL l n = n := by
  intro l n h; cases l <;> simp [nodesL]; omega
theorem nodesL_take (ks : List Con) (i : Nat) (n : Int) : nodesL ks n = nodesL (ks.drop i) (nodesL (ks.take i) n) := by
  induction ks generalizing i n with
  | nil => simp [nodesL]
  | cons x r ih =>
    cases i with
    | zero => simp [nodesL]
    | succ i =>
      simp only [List.take_succ_cons, List.drop_succ_cons, nodesL]
      split
      · exact ih i _
      · rw [nodesL_past _ _ (by omega)]
theorem nodes_le : ∀ (x : Con) (n : Int), 0 ≤ n → n ≤ 500 → n < nodesC x n ∧ nodesC x n ≤ 501 := by
  intro x
  induction x using Tr.ind with
  | h a ks ih =>
    intro n h0 h1
    have hL : ∀ (l : List Con), (∀ x ∈ l, x ∈ ks) → ∀ n : Int, 0 ≤ n → n ≤ 501 → n ≤ nodesL l n ∧ nodesL l n ≤ 501 := by
      intro l
      induction l with
      | nil => intro _ n _ h; simp [nodesL]; omega
      | cons y r ihr =>
        intro hm n h0 h1
        simp only [nodesL]
        split
        · have := ih y (hm y (by simp)) n h0 (by omega)
          have := ihr (fun z hz => hm z (by simp [hz])) (nodesC y n) (by omega) (by omega)
          omega
        · omega
    have := hL ks (fun _ h => h) (n + 1) (by omega) (by omega)
    simp only [nodesC]; omega
theorem nodesL_le (a : D) (l : List Con) (n : Int) (h0 : 0 ≤ n) (h1 : n ≤ 500) : n < nodesL l (n + 1) ∧ nodesL l (n + 1) ≤ 501 := nodes_le (.mk a l) n h0 h1
theorem nodesL_snoc {ks : List Con} {i : Nat} {x : Con} (h : ks[i]? = some x) (n : Int) (hn : nodesL (ks.take i) n ≤ 500) : nodesL (ks.take (i + 1)) n = nodesC x (nodesL (ks.take i) n) := by
  obtain ⟨hl, rfl⟩ := List.getElem?_eq_some_iff.1 h
  rw [nodesL_take _ i, List.take_take, Nat.min_eq_left (by omega), List.take_succ_eq_append_getElem hl, List.drop_append_of_le_length (by simp; omega), List.drop_of_length_le (by simp; omega)]
  simp [nodesL, hn]
theorem nodesL_all (ks : List Con) (i : Nat) (n : Int) (h : 500 < nodesL (ks.take i) n ∨ ks.length ≤ i) : nodesL ks n = nodesL (ks.take i) n := by
  rcases h with h | h
  · rw [nodesL_take ks i, nodesL_past _ _ h]
  · rw [List.take_of_length_le h]
theorem nodes_c (Z : Nat → Prop) : ∀ (x : Con) (sv : Value) (n : Int) (w : World), KV w Z x.ks sv → 0 ≤ n → n ≤ 500 →
    Calls Try.prog 54 #[conV x.a sv, .int .i64 n] w fun e w' => e = .returned (.int .i64 (nodesC x n)) ∧ Below w.heap.size w w' := by
  intro x
  induction x using Tr.ind with
  | h a ks ih =>
    intro sv n w hK h0 h1
    obtain ⟨p, cap, rfl, hl⟩ : ∃ p cap, sv = .slice p ks.length cap ∧ ks.length ≤ 1152921504606846976 := hK.slice
    have hK : KV w Z ks (.slice p ks.length cap) := hK
    show Calls Try.prog 54 #[.agg #[.int .i64 a.k, .int .i64 a.w, .int .i64 a.c, .int .i64 a.s, .slice p ks.length cap], .int .i64 n] w fun e w' => e = .returned (.int .i64 (nodesL ks (n + 1))) ∧ Below w.heap.size w w'
    have hN := nodesL_le a
    obtain ⟨m, hm⟩ : ∃ m, m = ks.length := ⟨_, rfl⟩
    rw [← hm] at hl hK ⊢
    have HM := Lib.hid hm
    have HK := Lib.hid hK
    have HN := Lib.hid hN
    have IH := Lib.hid ih
    clear hm hK hN ih
    have hB := (Below.refl w.heap.size w).alloc (Nat.le_refl _) (.cells #[.int .i64 a.k, .int .i64 a.w, .int .i64 a.c, .int .i64 a.s, .slice p m cap] 24)
    have hQ := Blk.new w 24 #[.int .i64 a.k, .int .i64 a.w, .int .i64 a.c, .int .i64 a.s, .slice p m cap]
    go_enter Try.func54, Try.ntmps54
    go_wp2_with fail
    go_loopw [1, 5] (fun u z wr => ∃ k : Nat, k ≤ m ∧ z = .int .i64 k ∧ u = .int .i64 (nodesL (ks.take k) (n + 1)) ∧ Below w.heap.size w wr ∧ Blk wr w.heap.size 24 #[.int .i64 a.k, .int .i64 a.w, .int .i64 a.c, .int .i64 a.s, .slice p m cap]) (fun _ z _ => m - (intOf z).toNat)
    case atStart => exact ⟨0, Nat.zero_le _, rfl, rfl, hB, hQ⟩
    case round =>
      obtain ⟨k, hk, rfl, rfl, hW, hq⟩ := hrel
      have hN2 := HN.out (ks.take k) n h0 h1
      have hz0 : 0 < nodesL (ks.take k) (n + 1) := by omega
      have hz1 : nodesL (ks.take k) (n + 1) ≤ 501 := hN2.2
      clear hN2
      by_cases hlt : k < m
      · by_cases hs : nodesL (ks.take k) (n + 1) ≤ 500
        · obtain ⟨x, hx⟩ : ∃ x, ks[k]? = some x := ⟨_, List.getElem?_eq_getElem (by rw [← HM.out]; exact hlt)⟩
          have hK1 := HK.out.same (Z' := Z) (w' := wr) (fun _ h => h) hW.size fun b _ hl => hW.block b hl
          obtain ⟨-, b, o, s', rfl, -, hb1, -, hk1, c0, c1, c2, c3, c4⟩ := hK1.kid hx
          have HI := Lib.hid (IH.out x (List.mem_of_getElem? hx) s' (nodesL (ks.take k) (n + 1)) wr hk1 (by omega) hs)
          have HE := Lib.hid (nodesL_snoc hx (n + 1) hs)
          clear hK1 hk1 hx
          obtain ⟨z, hz⟩ : ∃ z, z = nodesL (ks.take k) (n + 1) := ⟨_, rfl⟩
          rw [← hz] at HI HE hs hz0 hz1 ⊢
          clear hz
          obtain ⟨q4, qf⟩ : wr.cell? ⟨w.heap.size, 4, none⟩ = some (.slice (some ⟨b, o, none⟩) m cap) ∧ wr.frozen? ⟨w.heap.size, 4, none⟩ = false := ⟨hq.at_ (i := 4) rfl, hq.frozen 4⟩
          go_wp2_with fail
          refine HI.out.mono ?_
          rintro e w1 ⟨rfl, hb⟩
          rw [← HE.out]
          have hW1 := hW.trans (hb.mono hW.size)
          have hq1 := hq.next hb
          clear hb hW hq c0 c1 c2 c3 c4 q4 qf
          go_wp2_with fail
          go_roundw
          case rel => exact ⟨k + 1, by omega, by go_num, rfl, hW1, hq1⟩
          case measure => simp [intOf]; omega
        · have HE := Lib.hid (nodesL_all ks k (n + 1) (.inl (by omega)))
          obtain ⟨q4, qf⟩ : wr.cell? ⟨w.heap.size, 4, none⟩ = some (.slice p m cap) ∧ wr.frozen? ⟨w.heap.size, 4, none⟩ = false := ⟨hq.at_ (i := 4) rfl, hq.frozen 4⟩
          clear hq
          obtain ⟨z, hz⟩ : ∃ z, z = nodesL (ks.take k) (n + 1) := ⟨_, rfl⟩
          rw [← hz] at HE hs hz0 hz1 ⊢
          clear hz
          go_wp2_with fail
          go_ret
          exact ⟨ret_int HE.out.symm, hW⟩
      · have HE := Lib.hid (nodesL_all ks k (n + 1) (.inr (by have := HM.out; omega)))
        obtain ⟨q4, qf⟩ : wr.cell? ⟨w.heap.size, 4, none⟩ = some (.slice p m cap) ∧ wr.frozen? ⟨w.heap.size, 4, none⟩ = false := ⟨hq.at_ (i := 4) rfl, hq.frozen 4⟩
        clear hq
        obtain ⟨z, hz⟩ : ∃ z, z = nodesL (ks.take k) (n + 1) := ⟨_, rfl⟩
        rw [← hz] at HE hz0 hz1 ⊢
        clear hz
        go_wp2_with fail
        go_ret
        exact ⟨ret_int HE.out.symm, hW⟩
end Go.Proofs.Ytjeabkcbaielhaa.Co
