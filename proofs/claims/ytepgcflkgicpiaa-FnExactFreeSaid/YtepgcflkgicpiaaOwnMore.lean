/-
  Rows that a call made: what they are worth elsewhere.
-/
import Derived.Test.YtepgcflkgicpiaaRow3
namespace Go.Proofs.Ytepgcflkgicpiaa
open Go.RowKit

theorem OwnI.cap {w : World} {B : Nat} {K : Option Addr} {d : Nat} {ks : List Int} (h : OwnI w B K d ks) : ks.length ≤ d ∧ d ≤ maxLen := by
  rcases h.2 with ⟨hv, hn⟩ | ⟨g, cap, cur, hv, _, _, h1, h2, _⟩
  · injection hv with _ _ hd
    exact ⟨by omega, by omega⟩
  · injection hv with _ _ hd
    exact ⟨by omega, by omega⟩
theorem OwnP.mono' {w : World} {B B' c : Nat} {A : Option Addr} {ps : PS} (h : OwnP w B A c ps) (hB : B' ≤ B) : OwnP w B' A c ps := by
  refine ⟨h.1, ?_⟩
  rcases h.2 with hn | ⟨g, cap, cur, hv, hb, rest⟩
  · exact .inl hn
  · exact .inr ⟨g, cap, cur, hv, by omega, rest⟩
theorem OwnI.mono {w : World} {B B' c : Nat} {A : Option Addr} {ps : List Int} (h : OwnI w B A c ps) (hB : B' ≤ B) : OwnI w B' A c ps := by
  refine ⟨h.1, ?_⟩
  rcases h.2 with hn | ⟨g, cap, cur, hv, hb, rest⟩
  · exact .inl hn
  · exact .inr ⟨g, cap, cur, hv, by omega, rest⟩
end Go.Proofs.Ytepgcflkgicpiaa
