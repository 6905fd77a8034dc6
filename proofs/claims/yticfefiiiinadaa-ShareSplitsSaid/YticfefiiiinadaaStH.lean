/- slices.stableCmpFunc, slices.SortStableFunc: at every length. -/
import Derived.Test.YticfefiiiinadaaStE
import Derived.Test.YticfefiiiinadaaStG
import Derived.Test.YticfefiiiinadaaShC
namespace Go.Proofs.Yticfefiiiinadaa
open Go.Shelf Go.RowKit Go.Lib Go.Sort

section
variable {α : Type} [Inhabited α]
set_option maxHeartbeats 16000000 in
set_option maxRecDepth 1000000 in
theorem stable_c (enc : α → Value) (cf : α → α → Int) (lex : α → α → Bool) (bef : α → α → Prop) (T : Stable (ltOf cf) lex bef) (W : SWO lex) (g : Nat) (cb : Array Value) (blk off cap : Nat) (d : Array α) (w : World)
    (eg : ∀ args w, (callFunc g args).run Try.prog w = .ok (.enter g args) w) (hcmp : CmpLays1 Try.prog g cb enc cf blk off d.size w) (R : Row1 enc w blk off d) (hsz : d.size < 1099511627776)
    (hbef : ∀ p q, p < q → q < d.size → bef d[p]! d[q]!) :
    Calls Try.prog 33 #[.slice (some ⟨blk, off, none⟩) d.size cap, .int .i64 d.size, .func (.func g) #[] cb] w fun e w' => e = .returned (.tuple #[]) ∧
      ∃ d', SW enc w blk off d' w' ∧ d'.size = d.size ∧ PermIn 0 d.size d d' ∧ Asc lex 0 d.size (at_ d') := by
  have S0 : Aside (SW enc w blk off d w) := SW.start R.hH
  have hinsG : ∀ (A B : Nat) (dk : Array α) (wr : World), SW enc w blk off dk wr → dk.size = d.size → A ≤ B → B ≤ d.size →
      Calls Try.prog 35 #[.slice (some ⟨blk, off, none⟩) d.size cap, .int .i64 A, .int .i64 B, .func (.func g) #[] cb] wr fun e w' => e = .returned (.tuple #[]) ∧ SW enc w blk off (Sort.insertionSort (ltOf cf) dk A B) w' := by
    intro A B dk wr hS hs hAB hB
    have := Any.insertionSortCmpFunc_s insInt enc cf g cb blk off cap A B d dk w wr eg hcmp R hs.symm hS hAB (by omega) (by omega)
    rw [hs] at this
    exact this
  have hsymG : ∀ (A M B : Nat) (dk : Array α) (wr : World), SW enc w blk off dk wr → dk.size = d.size → A < M → M < B → B ≤ d.size → Halves lex bef A M B (at_ dk) →
      Calls Try.prog 36 #[.slice (some ⟨blk, off, none⟩) d.size cap, .int .i64 A, .int .i64 M, .int .i64 B, .func (.func g) #[] cb] wr (SymDone enc lex blk off A B dk w) := by
    intro A M B dk wr hS hs hAM hMB hB hH
    have := symMerge_c enc cf lex bef T g cb blk off cap d w eg hcmp R (by omega) (B - A + 1) A M B dk wr (by omega) hAM hMB (by omega) hs hS hH
    rw [hs] at this
    exact this
  have HINS := Lib.hid hinsG
  have HSYM := Lib.hid hsymG
  have HB := Lib.hid hbef
  clear hinsG hsymG hbef hcmp
  generalize hn : d.size = n at hsz HINS HSYM HB ⊢
  have HN := Lib.hid hn
  clear hn
  go_enter Try.func33, Try.ntmps33
  go_wp2
  go_loopg [7, 8] n (fun kx va vb wr => ∃ (j A : Nat) (dk : Array α), va = .int .i64 A ∧ vb = .int .i64 ((A : Int) + 20) ∧ A ≤ n ∧ n - A ≤ kx ∧ Aside (SW enc w blk off dk wr) ∧ Hid (A = j * 20 ∧ dk.size = n ∧ InsRuns lex bef 20 n j d dk))
  case atStart => exact ⟨0, 0, d, rfl, rfl, Nat.zero_le _, by omega, S0, by omega, HN.out, InsRuns.start 20 HB.out⟩
  case round =>
    clear S0
    obtain ⟨j, A, dk, rfl, rfl, hA, hkx, S1, HI⟩ := hrel
    by_cases hle : A + 20 ≤ n
    · have hlez : (A : Int) + 20 ≤ (n : Int) := by omega
      have hc := HINS.out A (A + 20) dk wr S1.out HI.out.2.1 (by omega) hle
      rw [show ((A + 20 : Nat) : Int) = (A : Int) + 20 by omega] at hc
      have hN : Hid (A + 20 = (j + 1) * 20 ∧ (Sort.insertionSort (ltOf cf) dk A (A + 20)).size = n ∧ InsRuns lex bef 20 n (j + 1) d (Sort.insertionSort (ltOf cf) dk A (A + 20))) := by
        obtain ⟨e1, e2, e3⟩ := HI.out
        have h3 := e3.next T W (by omega) (by omega)
        rw [← e1] at h3
        exact ⟨by omega, by rw [h3.perm.1]; exact HN.out, h3⟩
      generalize Sort.insertionSort (ltOf cf) dk A (A + 20) = d2 at hc hN
      clear S1
      go_wp2_with (go_at_call 35; refine hc.mono ?_; rintro e w2 ⟨rfl, S2⟩)
      have hS2 : Aside (SW enc w blk off d2 w2) := S2
      clear S2 hc
      go_roundg (n - (A + 20))
      case measure => omega
      case rel => exact ⟨j + 1, A + 20, d2, by go_num, by go_num, hle, Nat.le_refl _, hS2, hN⟩
    · have hlez : ¬ (A : Int) + 20 ≤ (n : Int) := by omega
      have hc := HINS.out A n dk wr S1.out HI.out.2.1 hA (Nat.le_refl _)
      have hN : Hid ((Sort.insertionSort (ltOf cf) dk A n).size = n ∧ Runs lex bef 20 n d (Sort.insertionSort (ltOf cf) dk A n)) := by
        obtain ⟨e1, e2, e3⟩ := HI.out
        have h3 := e3.last T W (by omega) (by omega) (by omega)
        rw [← e1] at h3
        exact ⟨by rw [h3.perm.1]; exact HN.out, h3⟩
      generalize Sort.insertionSort (ltOf cf) dk A n = d2 at hc hN
      clear S1 HI
      go_wp2_with (go_at_call 35; refine hc.mono ?_; rintro e w2 ⟨rfl, S2⟩)
      have hS2 : Aside (SW enc w blk off d2 w2) := S2
      clear S2 hc
      go_loopg [6, 7, 8, 9] n (fun kx vbs _ _ _ wr => ∃ (bs : Nat) (dk : Array α), vbs = .int .i64 bs ∧ 20 ≤ bs ∧ bs < 2199023255552 ∧ n - bs ≤ kx ∧ Aside (SW enc w blk off dk wr) ∧ Hid (dk.size = n ∧ Runs lex bef bs n d dk))
      case atStart => exact ⟨20, d2, rfl, Nat.le_refl _, by omega, by omega, hS2, hN⟩
      case round =>
        clear hS2 hN
        obtain ⟨bs, dr, rfl, hbs1, hbs2, hkx2, S1, HR⟩ := hrel
        by_cases hlt : bs < n
        · have hltz : (bs : Int) < (n : Int) := by omega
          go_wp2
          go_loopg [7, 8] n (fun kx va vb wr => ∃ (j A : Nat) (dj : Array α), va = .int .i64 A ∧ vb = .int .i64 ((A : Int) + 2 * (bs : Int)) ∧ A ≤ n ∧ n - A ≤ kx ∧ Aside (SW enc w blk off dj wr) ∧ Hid (A = j * (2 * bs) ∧ dj.size = n ∧ TwoRuns lex bef bs n j d dj))
          case atStart => exact ⟨0, 0, dr, rfl, by congr 1; omega, Nat.zero_le _, by omega, S1, by omega, HR.out.1, TwoRuns.start HR.out.2⟩
          case round =>
            clear S1 HR
            obtain ⟨j, A, dj, rfl, rfl, hA, hkx3, S1, HI⟩ := hrel
            by_cases hle2 : A + 2 * bs ≤ n
            · have hle2z : (A : Int) + 2 * (bs : Int) ≤ (n : Int) := by omega
              have hH : Halves lex bef A (A + bs) (A + 2 * bs) (at_ dj) := by
                obtain ⟨e1, e2, e3⟩ := HI.out
                rw [e1]
                exact e3.halves (by omega) (by omega)
              have hc := HSYM.out A (A + bs) (A + 2 * bs) dj wr S1.out HI.out.2.1 (by omega) (by omega) hle2 hH
              rw [show ((A + bs : Nat) : Int) = (A : Int) + (bs : Int) by omega, show ((A + 2 * bs : Nat) : Int) = (A : Int) + 2 * (bs : Int) by omega] at hc
              clear S1 hH
              go_wp2_with (go_at_call 36; refine hc.mono ?_; rintro e w2 ⟨rfl, d3, S3, hs3, hP3, hA3⟩)
              have hN : Hid (A + 2 * bs = (j + 1) * (2 * bs) ∧ d3.size = n ∧ TwoRuns lex bef bs n (j + 1) d d3) := by
                obtain ⟨e1, e2, e3⟩ := HI.out
                rw [e1] at hP3 hA3
                exact ⟨by rw [Nat.add_mul, Nat.one_mul, ← e1], hs3.trans e2, e3.next (by omega) (by omega) hP3 hA3⟩
              have hS3 : Aside (SW enc w blk off d3 w2) := S3
              clear S3 hs3 hP3 hA3 hc HI
              go_wp2
              go_roundg (n - (A + 2 * bs))
              case measure => omega
              case rel => exact ⟨j + 1, A + 2 * bs, d3, by first | rfl | go_num | (congr 1; omega), by first | rfl | go_num | (congr 1; omega), hle2, Nat.le_refl _, hS3, hN⟩
            · have hle2z : ¬ (A : Int) + 2 * (bs : Int) ≤ (n : Int) := by omega
              by_cases hm : A + bs < n
              · have hmz : (A : Int) + (bs : Int) < (n : Int) := by omega
                have hH : Halves lex bef A (A + bs) n (at_ dj) := by
                  obtain ⟨e1, e2, e3⟩ := HI.out
                  rw [e1]
                  exact e3.halves (by omega) (by omega)
                have hc := HSYM.out A (A + bs) n dj wr S1.out HI.out.2.1 (by omega) hm (Nat.le_refl _) hH
                rw [show ((A + bs : Nat) : Int) = (A : Int) + (bs : Int) by omega] at hc
                clear S1 hH
                go_wp2_with (go_at_call 36; refine hc.mono ?_; rintro e w2 ⟨rfl, d3, S3, hs3, hP3, hA3⟩)
                have hN : Hid (d3.size = n ∧ Runs lex bef (bs * 2) n d d3) := by
                  obtain ⟨e1, e2, e3⟩ := HI.out
                  rw [e1] at hP3 hA3
                  rw [Nat.mul_comm bs 2]
                  exact ⟨hs3.trans e2, e3.last (by omega) (by omega) (by omega) hP3 hA3⟩
                have hS3 : Aside (SW enc w blk off d3 w2) := S3
                clear S3 hs3 hP3 hA3 hc HI
                go_wp2
                go_roundg (n - bs * 2)
                case measure => omega
                case rel => exact ⟨bs * 2, d3, by go_num, by omega, by omega, Nat.le_refl _, hS3, hN⟩
              · have hmz : ¬ (A : Int) + (bs : Int) < (n : Int) := by omega
                have hN : Hid (dj.size = n ∧ Runs lex bef (bs * 2) n d dj) := by
                  obtain ⟨e1, e2, e3⟩ := HI.out
                  rw [Nat.mul_comm bs 2]
                  exact ⟨e2, e3.last (by omega) (by omega) (by omega) (permIn_refl _ _ _) (e3.one (by omega))⟩
                clear HI
                go_wp2
                go_roundg (n - bs * 2)
                case measure => omega
                case rel => exact ⟨bs * 2, dj, by go_num, by omega, by omega, Nat.le_refl _, S1, hN⟩
        · have hltz : ¬ (bs : Int) < (n : Int) := by omega
          go_wp2
          go_end0
          exact ⟨rfl, dr, S1, HR.out.1, HR.out.2.perm, HR.out.2.whole (by omega)⟩

theorem sorts_c (enc : α → Value) (cf : α → α → Int) (lex : α → α → Bool) (bef : α → α → Prop) (T : Stable (ltOf cf) lex bef) (W : SWO lex) (g : Nat) (cb : Array Value) (blk off cap : Nat) (d : Array α) (w : World)
    (eg : ∀ args w, (callFunc g args).run Try.prog w = .ok (.enter g args) w) (hcmp : CmpLays1 Try.prog g cb enc cf blk off d.size w) (R : Row1 enc w blk off d) (hsz : d.size < 1099511627776)
    (hbef : ∀ p q, p < q → q < d.size → bef d[p]! d[q]!) :
    Calls Try.prog 30 #[.slice (some ⟨blk, off, none⟩) d.size cap, .func (.func g) #[] cb] w fun e w' => e = .returned (.tuple #[]) ∧
      ∃ d', SW enc w blk off d' w' ∧ d'.size = d.size ∧ PermIn 0 d.size d d' ∧ Asc lex 0 d.size (at_ d') := by
  have hst := stable_c enc cf lex bef T W g cb blk off cap d w eg hcmp R hsz hbef
  clear hcmp R hbef
  go_enter Try.func30, Try.ntmps30
  go_wp2_with (go_at_call 33; refine hst.mono ?_; rintro e w1 ⟨rfl, hS⟩)
  go_end0
  exact ⟨rfl, hS⟩
end
end Go.Proofs.Yticfefiiiinadaa
