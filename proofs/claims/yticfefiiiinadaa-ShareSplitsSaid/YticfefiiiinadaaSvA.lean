/- share's mostFirst and Split at every length. -/
import Derived.Test.YticfefiiiinadaaShO
import Derived.Test.YticfefiiiinadaaStH
namespace Go.Proofs.Yticfefiiiinadaa
open Go.RowKit Go.Shelf Go.Lib Go.Sort Ieee

set_option maxHeartbeats 4000000 in
set_option maxRecDepth 100000 in
theorem mostFirst_g (b off cap : Nat) (l : List Int) (w : World) (hn0 : l.length ≠ 0) (hn : l.length ≤ 64) (hb : b < w.heap.size) (hc : SI w b off l) :
    Calls Try.prog 27 #[.slice (some ⟨b, off, none⟩) l.length cap] w fun e w' => ∃ v p, e = .returned v ∧ MF l p ∧ One1 w.heap.size w w' v ((List.range l.length).map (fun k => ((p k : Nat) : Int))) := by
  obtain ⟨i0, hi, hz0, hz1, hz2⟩ := info_parts info3
  obtain ⟨m, hm0⟩ : ∃ m, l.length = m + 1 := ⟨l.length - 1, by omega⟩
  have hm := Lib.hid hm0
  clear hm0
  have hC := Lib.hid hc
  have hbox : (w.alloc (.cells #[.slice (some ⟨b, off, none⟩) l.length cap] 27)).cell? ⟨w.heap.size, 0, none⟩ = some (.slice (some ⟨b, off, none⟩) l.length cap) := by
    rw [World.cell?_alloc_at _ _ _ _ rfl]; rfl
  have hBX := Lib.hid hbox
  clear hc hbox
  have hmf : ∀ (fn : Fn) (first cap : Array Value) (w : World), (Instr.makeFunc fn first cap).run Try.prog w = .ok (.func fn first cap) w := fun _ _ _ _ => rfl
  go_enter Try.func27, Try.ntmps27
  go_wp2
  go_loopw [3, 7] (fun v i wr => ∃ k : Nat, k ≤ l.length ∧ i = .int .i64 k ∧ Aside (One1 (w.heap.size + 1) (w.alloc (.cells #[.slice (some ⟨b, off, none⟩) l.length cap] 27)) wr v (upto k))) (fun _ i _ => l.length - (intOf i).toNat)
  case atStart => exact ⟨0, Nat.zero_le _, rfl, One1.start _ _⟩
  case round =>
    obtain ⟨k, hk, rfl, hT⟩ := hrel
    have hT0 := Lib.hid hT
    clear hT
    have hB : w.heap.size + 1 ≤ wr.heap.size := by have := hT0.out.1.size; simp at this; omega
    by_cases hlt : k < l.length
    · have hlt' : (k : Int) < (l.length : Int) := by omega
      go_wp2_with (at_builtin; refine wpList_append_own_at _ rfl (.tmp 10) (.tmp 12) 27 rfl (w.heap.size + 1) 3 i0 (.int .i64 0) 1 8 Try.underlying27 hi hz0 hz1 hz2 rfl (by decide) _ _ _ rfl (World.ownsRow.alloc hT0.out.2 _) ⟨_, 0, none⟩ 1 1 [.int .i64 (k : Int)] rfl rfl (cell_one_new _ _ _) (by simp [Value.oneCell']) (by rw [upto_length]; unfold maxLen; omega) (by rw [upto_length]; omega) (by simp; omega) ?_
                   intro v' w1 hown' hgrow _ hat
                   have hT1 := Lib.hid (One1.push hT0.out hB hown' hgrow)
                   clear hown' hgrow hat)
      go_roundw
      case rel => exact ⟨k + 1, by omega, by go_num, by rw [upto_next]; exact hT1.out⟩
      case measure => simp [intOf]; omega
    · have hlt' : ¬ (k : Int) < (l.length : Int) := by omega
      have : k = l.length := by omega
      subst this
      have hT := hT0.out
      obtain ⟨g, cap', rfl, hg1, hg2, hSI, hfz⟩ := hT.2.form (by intro h; have := upto_length l.length; rw [h] at this; simp at this; omega)
      have hul : (upto l.length).length = l.length := upto_length _
      have hsz : (allF m).size = l.length := by rw [size_allF]; exact hm.out.symm
      have hH : Holds encF wr g 0 (allF m) := by
        intro j hj
        refine ⟨?_, hfz _⟩
        rw [hSI j (by omega), getElem!_pos _ j hj]
        have hj' : j < (upto l.length).length := by omega
        rw [List.getD_eq_getElem?_getD, List.getElem?_eq_getElem hj']
        simp [upto, encF, allF]
      have hR1 : Row1 encF wr g 0 (allF m) := ⟨fun _ => rfl, hH, hg2⟩
      have hcmp : CmpLays1 Try.prog 31 #[.pointer (some ⟨w.heap.size, 0, none⟩)] (encF (m := m)) (cmpF (m := m) l) g 0 (allF m).size wr :=
        CmpReads.lays fun q os dk _ x y => by
          have hbx : (sortWorld encF wr g 0 q dk os).cell? ⟨w.heap.size, 0, none⟩ = some (.slice (some ⟨b, off, none⟩) l.length cap) := by
            rw [cell_sw_other _ _ _ _ _ _ _ _ (by show w.heap.size ≠ g; omega) (by show w.heap.size < wr.heap.size; omega), cell_below hT.1 (by show w.heap.size < w.heap.size + 1; omega)]
            exact hBX.out
          have hl : SI (sortWorld encF wr g 0 q dk os) b off l := fun j hj => by
            rw [cell_sw_other _ _ _ _ _ _ _ _ (by show b ≠ g; omega) (by show b < wr.heap.size; omega), cell_below hT.1 (by show b < w.heap.size + 1; omega), World.cell?_alloc_past _ _ _ hb]
            exact hC.out j hj
          exact clo_c w.heap.size b off cap l _ x.val y.val (by have := hm.out; omega) (by have := hm.out; omega) hbx hl
      have hT2 : Stable (ltOf (cmpF (m := m) l)) (lexF l) (fun i j => i.val < j.val) := by
        refine ⟨fun x y z h1 h2 => ?_, fun x y h => ?_, fun x y h => agree l y x h, fun x y h1 h2 => ?_⟩
        · rw [lexF_iff] at *; omega
        · rw [Bool.eq_false_iff, ne_eq, lexF_iff]; rw [lexF_iff] at h; omega
        · rw [Bool.eq_false_iff, ne_eq, lexF_iff] at h2; rw [lexF_iff]; omega
      have hsort := sorts_c (encF (m := m)) (cmpF (m := m) l) (lexF l) (fun i j => i.val < j.val) hT2 (lexF_swo l) 31 #[.pointer (some ⟨w.heap.size, 0, none⟩)] g 0 cap' (allF m) wr (enters_of Try.func31 (by kernel_rfl) rfl) hcmp hR1 (by omega)
        (fun p q h1 h2 => by rw [size_allF] at h2; rw [allF_get p (by omega), allF_get q h2]; exact h1)
      rw [hsz] at hsort
      have hend : ∀ (W : World) (d' : Array (Fin (m + 1))), SW (encF (m := m)) wr g 0 d' W → PermIn 0 l.length (allF m) d' → Asc (lexF l) 0 l.length (at_ d') → ∃ p, MF l p ∧ One1 w.heap.size w W (.slice (some ⟨g, 0, none⟩) l.length cap') ((List.range l.length).map (fun k => ((p k : Nat) : Int))) := by
        intro W d' hS hP hA
        have hlm := hm.out
        have hSo : SortedIn (lexF l) 0 (m + 1) d' := fun i j h1 h2 h3 => hT2.asym _ _ (hA i j h1 h2 (by omega))
        have hP2 : PermIn 0 (m + 1) (allF m) d' := by rw [hlm] at hP; exact hP
        obtain ⟨p, hM, hv⟩ := mf_of l hlm d' hP2 hSo
        have hrl : (valF d').length = (upto l.length).length := by rw [hul, hv]; simp
        refine ⟨p, hM, ?_⟩
        rw [← hv]
        have h1 := OI.sorted hT.2 hrl hS
        rw [hul] at h1
        refine ⟨?_, h1.mono (by omega)⟩
        have h2 : RowKit.Below w.heap.size w (w.alloc (.cells #[.slice (some ⟨b, off, none⟩) l.length cap] 27)) := (RowKit.Below.refl _ _).alloc (Nat.le_refl _) _
        exact h2.trans ((hT.1.trans (below_sw hS (by omega) hg2)).mono (by omega))
      rw [hul]
      have hEND := Lib.hid hend
      clear hend hcmp hR1 hH hSI hfz hT hT0 hsz hul hT2
      go_wp2_with (go_at_call 30; refine hsort.mono ?_; rintro e w1 ⟨rfl, d', hS, _, hP, hA⟩)
      obtain ⟨p, hM, hO⟩ := hEND.out _ d' hS hP hA
      go_ret
      exact ⟨_, p, rfl, hM, hO⟩
end Go.Proofs.Yticfefiiiinadaa
