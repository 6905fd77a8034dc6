/- slices.symMergeCmpFunc, whole. -/
import Derived.Test.YticfefiiiinadaaStD
namespace Go.Proofs.Yticfefiiiinadaa
open Go.Shelf Go.RowKit Go.Lib Go.Sort

section
variable {α : Type} [Inhabited α]
theorem symMerge_c (enc : α → Value) (cf : α → α → Int) (lex : α → α → Bool) (bef : α → α → Prop) (T : Stable (ltOf cf) lex bef) (g : Nat) (cb : Array Value) (blk off cap : Nat) (d0 : Array α) (w0 : World)
    (eg : ∀ args w, (callFunc g args).run Try.prog w = .ok (.enter g args) w) (hcmp : CmpLays1 Try.prog g cb enc cf blk off d0.size w0) (R : Row1 enc w0 blk off d0) (hsz : d0.size < 4611686018427387904) :
    ∀ (N a m b : Nat) (d : Array α) (w : World), b - a < N → a < m → m < b → b ≤ d.size → d.size = d0.size → SW enc w0 blk off d w → Halves lex bef a m b (at_ d) →
      Calls Try.prog 36 #[.slice (some ⟨blk, off, none⟩) d.size cap, .int .i64 a, .int .i64 m, .int .i64 b, .func (.func g) #[] cb] w (SymDone enc lex blk off a b d w0)
  | 0, _, _, _, _, _, hN, _, _, _, _, _, _ => by omega
  | N + 1, a, m, b, d, w, hN, ham, hmb, hb, hs, hS, hH => by
    by_cases h1 : m = a + 1
    · exact sym_left enc cf lex bef T g cb blk off cap a m b d0 d w0 w eg hcmp R hs.symm hS h1 hmb hb (by omega) hH
    · by_cases h2 : b = m + 1
      · exact sym_right enc cf lex bef T g cb blk off cap a m b d0 d w0 w eg hcmp R hs.symm hS (by omega) h2 hb (by omega) hH
      · have ih : ∀ (a' m' b' : Nat) (d' : Array α) (w' : World), b' - a' < b - a → a' < m' → m' < b' → b' ≤ d'.size → d'.size = d.size → SW enc w0 blk off d' w' → Halves lex bef a' m' b' (at_ d') →
            Calls Try.prog 36 #[.slice (some ⟨blk, off, none⟩) d'.size cap, .int .i64 a', .int .i64 m', .int .i64 b', .func (.func g) #[] cb] w' (SymDone enc lex blk off a' b' d' w0) :=
          fun a' m' b' d' w' k1 k2 k3 k4 k5 k6 k7 => symMerge_c enc cf lex bef T g cb blk off cap d0 w0 eg hcmp R hsz N a' m' b' d' w' (by omega) k2 k3 k4 (by omega) k6 k7
        by_cases h3 : (a + b) / 2 < m
        · exact sym_main1 enc cf lex bef T g cb blk off cap a m b ((a + b) / 2) ((a + b) / 2 + m - b) ((a + b) / 2) d0 d w0 w eg hcmp R hs.symm hS (by omega) (by omega) hb (by omega) hH rfl ⟨h3, by omega, rfl⟩ ih
        · exact sym_main2 enc cf lex bef T g cb blk off cap a m b ((a + b) / 2) a m d0 d w0 w eg hcmp R hs.symm hS (by omega) (by omega) hb (by omega) hH rfl ⟨by omega, rfl, rfl⟩ ih
end
end Go.Proofs.Yticfefiiiinadaa
