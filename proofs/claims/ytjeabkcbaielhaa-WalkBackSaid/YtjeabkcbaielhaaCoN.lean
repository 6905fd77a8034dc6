/- Check: which containers are trees (cons.Check, its closure). -/
import Derived.Test.YtjeabkcbaielhaaCoH
import Derived.Test.YtjeabkcbaielhaaCoM
import Derived.Shelf.Abstract
namespace Go.Proofs.Ytjeabkcbaielhaa.Co
open Go.RowKit Go.Shelf
/-- The closure's memory: the clients that were met, in a set, which a variable holds. -/
def Jc (bv bm : Nat) (s : List Int) (F : Nat → Prop) (w : World) : Prop :=
  (∀ b, F b ↔ b = bv ∨ b = bm) ∧ bv ≠ bm ∧ Blk w bv 60 #[.map (some bm)] ∧ SetI w bm s ∧ s.length ≤ 200
theorem jok_c (bv bm : Nat) : Jok (Jc bv bm) where
  next := fun s F w w' h hb => ⟨h.1, h.2.1, h.2.2.1.next hb, h.2.2.2.1.next hb, h.2.2.2.2⟩
  lt := fun s F w h b hf => by
    rcases (h.1 b).1 hf with e | e
    · exact e ▸ h.2.2.1.lt
    · exact e ▸ h.2.2.2.1.lt
  far := fun s F w r u v h hr hq => by
    have h1 : bv ≠ r := fun e => hr ((h.1 r).2 (.inl e.symm))
    have h2 : bm ≠ r := fun e => hr ((h.1 r).2 (.inr e.symm))
    exact ⟨h.1, h.2.1, h.2.2.1.far h1 v, h.2.2.2.1.same (Below.heap_setCell w ⟨r, 0, none⟩ v bm h2), h.2.2.2.2⟩
theorem enters_check : ∀ args w, (callFunc 57 args).run Try.prog w = .ok (.enter 57 args) w := enters_of Try.func57 (by kernel_rfl) rfl
theorem chk_G (s : List Int) (x : Con) (way : List Nat) (h : s.length ≤ 128) (h2 : (chk s x way).2 = false) : (chk s x way).1.length ≤ 128 := by
  unfold chk at h2 ⊢
  split
  · exact h
  · split
    · exact h
    · split
      · exact h
      · rename_i h3 h4 h5
        rw [if_neg h3, if_neg h4, if_neg h5] at h2
        have := of_decide_eq_false h2
        simp; omega
theorem end_stop {σ : Type} {r : σ × Bool} {s : σ} {pv : Value} {P : σ → Prop} (h : r = (s, true)) (hp : P s) : Ending.panicked [{ v := pv, recovered := false }] = endE r.2 pv ∧ P r.1 := by subst h; exact ⟨rfl, hp⟩
theorem end_go {σ : Type} {r : σ × Bool} {s : σ} {pv : Value} {P : σ → Prop} (h : r = (s, false)) (hp : P s) : Ending.returned (.tuple #[]) = endE r.2 pv ∧ P r.1 := by subst h; exact ⟨rfl, hp⟩
set_option maxHeartbeats 1000000 in
theorem vis_check (Z : Nat → Prop) (bv bm : Nat) : Vis Z (fun s => s.length ≤ 128) 57 #[.pointer (some ⟨bv, 0, none⟩)] chk (errnoP 110) (Jc bv bm) := by
  intro s F w x sv wv way hg hs hK hw hZ hWV hlw
  obtain ⟨p, cap, rfl, hl⟩ := hK.slice
  obtain ⟨q, c, rfl⟩ := hWV.slice
  have hb0 := (Below.refl w.heap.size w).alloc (Nat.le_refl _) (.cells #[.int .i64 x.a.k, .int .i64 x.a.w, .int .i64 x.a.c, .int .i64 x.a.s, .slice p x.ks.length cap] 24)
  have HS := Lib.hid (fun (W : World) => sound_c x p cap way.length W hl hlw)
  have hQ := Blk.new w 24 #[.int .i64 x.a.k, .int .i64 x.a.w, .int .i64 x.a.c, .int .i64 x.a.s, .slice p x.ks.length cap]
  have hs0 := (jok_c bv bm).next _ _ _ _ hs hb0
  have hcI := hw.2.2.1
  have HC : Hid (chk s x way = if soundB x way.length = false then (s, true) else if x.a.k ≠ 0 then (s, false) else if x.a.c ∈ s then (s, true) else (s ++ [x.a.c], decide (128 < s.length + 1))) := rfl
  obtain ⟨r, hr⟩ : ∃ r, r = chk s x way := ⟨_, rfl⟩
  rw [← hr] at HC ⊢
  have HR := Lib.hid hr
  clear hr
  obtain ⟨sb, hsb⟩ : ∃ sb, sb = soundB x way.length := ⟨_, rfl⟩
  rw [← hsb] at HS HC
  have HHS := Lib.hid hs
  clear hsb hK hw hZ hWV hl hlw hs
  obtain ⟨⟨xk, xw, xc, xs⟩, ks⟩ := x
  simp only [Tr.a_mk, Tr.ks_mk] at HS hb0 hQ hs0 hcI ⊢
  have HC := Lib.hid (show r = (if sb = false then (s, true) else if xk ≠ 0 then (s, false) else if xc ∈ s then (s, true) else (s ++ [xc], decide (128 < s.length + 1))) from HC.out)
  obtain ⟨n, hn⟩ : ∃ n, n = ks.length := ⟨_, rfl⟩
  obtain ⟨nw, hnw⟩ : ∃ n, n = way.length := ⟨_, rfl⟩
  rw [← hn] at hb0 hQ HS hs0 ⊢
  rw [← hnw] at HS ⊢
  have HB := Lib.hid hb0
  have HQ := Lib.hid hQ
  have HS0 := Lib.hid hs0
  clear hn hnw hb0 hQ hs0 HR
  show Calls Try.prog 57 #[.agg #[.int .i64 xk, .int .i64 xw, .int .i64 xc, .int .i64 xs, .slice p n cap], .slice q nw c, .pointer (some ⟨bv, 0, none⟩)] w _
  cases sb
  · rw [if_pos rfl] at HC
    have HC' : Hid (r = (s, true)) := HC
    clear HC
    go_enter Try.func57, Try.ntmps57
    go_wp2_with fail
    refine (HS.out _).mono ?_
    rintro e w1 ⟨rfl, hb⟩
    have HP : Hid (∃ F', Jc bv bm s F' w1 ∧ Turn F F' w w1) := ⟨F, (jok_c bv bm).next _ _ _ _ HS0.out hb, (Turn.of_below HB.out).trans (Turn.of_below hb)⟩
    clear hb
    go_wp2_with fail
    exact ⟨rfl, end_stop (P := fun s => ∃ F', Jc bv bm s F' w1 ∧ Turn F F' w w1) HC'.out HP.out⟩
  · rw [if_neg (by simp)] at HC
    by_cases hk : xk = 0
    · subst hk
      rw [if_neg (fun h => h rfl)] at HC
      have HI := Lib.hid hcI
      have HG := Lib.hid hg
      clear hcI hg
      go_enter Try.func57, Try.ntmps57
      go_wp2_with fail
      refine (HS.out _).mono ?_
      rintro e w1 ⟨rfl, hb⟩
      have HJ1 := Lib.hid ((jok_c bv bm).next _ _ _ _ HS0.out hb)
      have HT1 := Lib.hid ((Turn.of_below (F := F) HB.out).trans (Turn.of_below hb))
      have hq1 := HQ.out.next hb
      obtain ⟨q0, q2⟩ : w1.cell? ⟨w.heap.size, 0, none⟩ = some (.int .i64 0) ∧ w1.cell? ⟨w.heap.size, 2, none⟩ = some (.int .i64 xc) := ⟨hq1.at_ (i := 0) rfl, hq1.at_ (i := 2) rfl⟩
      clear hb hq1
      obtain ⟨hF, hne, hbv, hset, -⟩ := HJ1.out
      have b0 := hbv.at_ (i := 0) rfl
      have hlen := hset.len 3
      obtain ⟨w2, hput, hset2, hg2⟩ := hset.put HI.out (by have := HG.out; omega)
      have hbv2 := hbv.grown hg2 (fun e => hne (Option.some.inj e))
      have b2 := hbv2.at_ (i := 0) rfl
      have hlen2 := hset2.len 3
      have HT2 : Hid (Turn F F w w2) := HT1.out.trans ⟨hg2.os, hg2.tape, hg2.output, hg2.size, fun i hi hn => hg2.block i hi (fun e => hn ((hF i).2 (.inr (Option.some.inj e)))), fun i hi => .inl hi⟩
      by_cases hm : xc ∈ s
      · rw [if_pos hm] at HC hlen2 hset2
        have HC' : Hid (r = (s, true)) := HC
        have HP : Hid (∃ F', Jc bv bm s F' w2 ∧ Turn F F' w w2) := ⟨F, ⟨hF, hne, hbv2, hset2, by have := HG.out; omega⟩, HT2.out⟩
        clear HC hm hF hne hbv hset hbv2 hset2 hg2
        go_wp2_with fail
        exact ⟨rfl, end_stop (P := fun s => ∃ F', Jc bv bm s F' w2 ∧ Turn F F' w w2) HC'.out HP.out⟩
      · rw [if_neg hm] at HC hlen2 hset2
        have HC' : Hid (r = (s ++ [xc], decide (128 < s.length + 1))) := HC
        have HP : Hid (∃ F', Jc bv bm (s ++ [xc]) F' w2 ∧ Turn F F' w w2) := ⟨F, ⟨hF, hne, hbv2, hset2, by have := HG.out; simp; omega⟩, HT2.out⟩
        obtain ⟨sl, hsl⟩ : ∃ sl, sl = s.length := ⟨_, rfl⟩
        rw [List.length_append, List.length_singleton] at hlen2
        rw [← hsl] at hlen hlen2 HC'
        have hsg : sl ≤ 128 := by have := HG.out; omega
        clear HC hm hF hne hbv hset hbv2 hset2 hg2 hsl
        have hne1 : ((sl + 1 : Nat) : Int) = (sl : Int) + 1 := by omega
        have hne2 : ((sl : Int) + 1 == (sl : Int)) = false := by simp; omega
        rw [hne1] at hlen2
        have hd : 128 < sl + 1 ∨ ¬ 128 < sl + 1 := by omega
        rcases hd with hd | hd
        · rw [decide_eq_true hd] at HC'
          have hd' : 128 < (sl : Int) + 1 := by omega
          clear hne1 hd
          go_wp2_with fail
          exact ⟨rfl, end_stop (P := fun s => ∃ F', Jc bv bm s F' w2 ∧ Turn F F' w w2) HC'.out HP.out⟩
        · rw [decide_eq_false hd] at HC'
          have hd' : decide (128 < (sl : Int) + 1) = false := decide_eq_false (by omega)
          clear hne1 hd hsg
          go_wp2_with fail
          go_end0
          exact end_go (P := fun s => ∃ F', Jc bv bm s F' w2 ∧ Turn F F' w w2) HC'.out HP.out
    · rw [if_pos hk] at HC
      have HC' : Hid (r = (s, false)) := HC
      clear HC
      go_enter Try.func57, Try.ntmps57
      go_wp2_with fail
      refine (HS.out _).mono ?_
      rintro e w1 ⟨rfl, hb⟩
      have HP : Hid (∃ F', Jc bv bm s F' w1 ∧ Turn F F' w w1) := ⟨F, (jok_c bv bm).next _ _ _ _ HS0.out hb, (Turn.of_below HB.out).trans (Turn.of_below hb)⟩
      have hq1 := HQ.out.next hb
      have q0 := hq1.at_ (i := 0) rfl
      clear hb hq1
      go_wp2_with fail
      refine bodyPost_ret (results_none rfl _ _ _) rfl ?_
      exact end_go (P := fun s => ∃ F', Jc bv bm s F' w1 ∧ Turn F F' w w1) HC'.out HP.out
def checkI (x : Con) : Int := if treeB x = true then 0 else 110
set_option maxHeartbeats 1000000 in
theorem check_c (Z : Nat → Prop) (x : Con) (sv : Value) (w : World) (hK : KV w Z x.ks sv) (hw : x.a.wide) (hd : ht x ≤ 1000000) (hZ : ∀ b, Z b → b < w.heap.size) :
    Calls Try.prog 19 #[conV x.a sv] w fun e w' => e = .returned (.int .i64 (checkI x)) ∧ Below w.heap.size w w' := by
  obtain ⟨p, cap, rfl, hl⟩ := hK.slice
  have hE : checkI x = if (run chk [] (pre x [])).2 = true then 110 else 0 := by
    unfold checkI; rw [chk_tree]; cases treeB x <;> rfl
  rw [hE]
  obtain ⟨n, hn⟩ : ∃ n, n = x.ks.length := ⟨_, rfl⟩
  rw [← hn] at hK ⊢
  have hb0 := (((Below.refl w.heap.size w).alloc (Nat.le_refl _) (.cells #[.int .i64 x.a.k, .int .i64 x.a.w, .int .i64 x.a.c, .int .i64 x.a.s, .slice p n cap] 24)).alloc (by simp) (.map #[] 0)).alloc (by simp; omega) (.cells #[.map (some (w.heap.size + 1))] 60)
  have hS := (SetI.made (w.alloc (.cells #[.int .i64 x.a.k, .int .i64 x.a.w, .int .i64 x.a.c, .int .i64 x.a.s, .slice p n cap] 24))).next ((Below.refl _ _).alloc (Nat.le_refl _) (.cells #[.map (some (w.heap.size + 1))] 60))
  have hV := Blk.new ((w.alloc (.cells #[.int .i64 x.a.k, .int .i64 x.a.w, .int .i64 x.a.c, .int .i64 x.a.s, .slice p n cap] 24)).alloc (.map #[] 0)) 60 #[.map (some (w.heap.size + 1))]
  simp only [World.size_alloc] at hS hV
  have hJ : Jc (w.heap.size + 2) (w.heap.size + 1) [] (fun b => b = w.heap.size + 2 ∨ b = w.heap.size + 1) _ := ⟨fun b => Iff.rfl, by omega, hV, hS, by simp⟩
  have HL := Lib.hid (look_c Z (fun s => s.length ≤ 128) 57 #[.pointer (some ⟨w.heap.size + 2, 0, none⟩)] chk (errnoP 110) 110 (.errno 110) (Jc (w.heap.size + 2) (w.heap.size + 1)) (jok_c _ _) enters_check (vis_check Z _ _) x [] _ _ (.slice p n cap) (reach_of chk_G (by simp) _) hJ (hK.next hb0) hw (fun b h => by have := hZ b h; simp; omega) hd)
  have HB := Lib.hid hb0
  clear hK hw hd hZ hb0 hS hV hJ hE hn hl
  obtain ⟨r, hr⟩ : ∃ r, r = run chk [] (pre x []) := ⟨_, rfl⟩
  rw [← hr] at HL ⊢
  clear hr
  obtain ⟨z, hz⟩ : ∃ z : Int, z = if r.2 = true then 110 else 0 := ⟨_, rfl⟩
  rw [← hz] at HL ⊢
  clear hz
  have hmf : ∀ (fn : Fn) (first cap : Array Value) (w : World), (Instr.makeFunc fn first cap).run Try.prog w = .ok (.func fn first cap) w := fun _ _ _ _ => rfl
  have hmm := @run_makeMap Try.prog
  go_enter Try.func19, Try.ntmps19
  go_wp2_with fail
  refine HL.out.mono ?_
  rintro e w1 ⟨rfl, F', -, htn⟩
  have HB1 := Lib.hid (Turn.below HB.out htn (by simp; omega) (fun i hi => by omega))
  clear htn HL
  go_wp2_with fail
  go_ret
  exact ⟨rfl, HB1.out⟩
end Go.Proofs.Ytjeabkcbaielhaa.Co
