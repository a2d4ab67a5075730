/-
  The engine, part 14: arguments that are arrays of integers, opened; a law's row out of what the engine says.
-/
import Derived.Test.YtdhbnidobpkkfaaM5
import Derived.ProofKit
import Derived.OpenShut
namespace Go.W
open Go.RowKit (Below)

section
variable {P : Program} {H : Type} {enc : TypeId × Value → H} {W : World} {base b0 : Nat} {sp : Nat → Bool} {held : Bool} {r : Reach} {t e : TypeId} {n : Nat} {k : IntKind} {v : Value} {d : DataW H} {p : List MemPlace}

theorem open_row (ht : P.underlying t = some (.array n e)) (he : P.underlying e = some (.int k)) (hce : P.cellsOf e = 1) (hct : P.cellsOf t = n) (hv : Value.okWide P W r base t v) (h : DataW.Trod enc P W b0 sp held t v d p) :
    ∃ cs : List Int, v = .agg (cs.map fun x => Value.int k x).toArray ∧ cs.length = n ∧ ∀ x ∈ cs, (Lit.int k x).wf = true := by
  have hv' : ∃ cs, v = .agg cs ∧ cs.size = P.cellsOf t ∧ Row.okWide P W r base t cs := by
    unfold Value.okWide at hv; rw [ht] at hv; exact hv
  obtain ⟨cs, rfl, hsz, _⟩ := hv'
  obtain ⟨fuel, hf⟩ := h
  obtain ⟨xs, m, rfl, _, hl, hxl, hget⟩ := DataW.trod_array ht hf
  rw [hce] at hget
  have hcell : ∀ i, i < n → ∃ x, cs.toList[i]? = some (.int k x) ∧ (Lit.int k x).wf = true := by
    intro i hi
    have h1 := hget i hi
    rw [Nat.mul_one] at h1
    have hx : ∃ q, xs[i]? = some q := ⟨xs[i]'(by omega), List.getElem?_eq_getElem _⟩
    obtain ⟨q, hq⟩ := hx
    rw [hq] at h1
    obtain ⟨x, h2, _, h3⟩ := DataW.trod_int he h1
    refine ⟨x, ?_, h3⟩
    have : (List.take 1 (List.drop i (Value.agg cs).cells.toList))[0]? = some (.int k x) := by rw [h2]; rfl
    simpa [Value.cells] using this
  refine ⟨cs.toList.map fun u => (match u with | .int _ x => x | _ => 0), ?_, ?_, ?_⟩
  · congr 1
    apply Array.ext'
    apply List.ext_getElem?
    intro i
    by_cases hi : i < n
    · obtain ⟨x, h1, _⟩ := hcell i hi
      simp [h1]
    · have : cs.toList.length = n := by rw [Array.length_toList, hsz, hct]
      rw [List.getElem?_eq_none (by omega), List.getElem?_eq_none (by simp; rw [Array.length_toList] at this; omega)]
  · simp [hsz, hct]
  · intro x hx
    obtain ⟨u, hu, rfl⟩ := List.mem_map.1 hx
    obtain ⟨i, hi, rfl⟩ := List.mem_iff_getElem.1 hu
    have hin : i < n := by rw [← hct, ← hsz, ← Array.length_toList]; exact hi
    obtain ⟨x, h1, h2⟩ := hcell i hin
    rw [List.getElem?_eq_getElem hi] at h1
    have h1 := Option.some.inj h1
    rw [h1]; exact h2

theorem wf_u64 {x : Int} (h : (Lit.int .u64 x).wf = true) : ∃ n : Nat, n < 18446744073709551616 ∧ x = n := by
  have : 0 ≤ x ∧ x ≤ 18446744073709551615 := by simpa [Lit.wf, IntKind.has, IntKind.min, IntKind.max, IntKind.signed, IntKind.bits] using h
  exact ⟨x.toNat, by omega, by omega⟩

/-- An argument that is a number. -/
theorem open_num (ht : P.underlying t = some (.array 4 e)) (he : P.underlying e = some (.int .u64)) (hce : P.cellsOf e = 1) (hct : P.cellsOf t = 4) (hv : Value.okWide P W r base t v) (h : DataW.Trod enc P W b0 sp held t v d p) :
    ∃ X, X < 2 ^ 256 ∧ v = num X := by
  obtain ⟨cs, rfl, hl, hw⟩ := open_row ht he hce hct hv h
  match cs, hl, hw with
  | [a, b, c, d], _, hw =>
    obtain ⟨a, ha, rfl⟩ := wf_u64 (hw a (by simp))
    obtain ⟨b, hb, rfl⟩ := wf_u64 (hw b (by simp))
    obtain ⟨c, hc, rfl⟩ := wf_u64 (hw c (by simp))
    obtain ⟨d, hd, rfl⟩ := wf_u64 (hw d (by simp))
    refine ⟨hor a b c d, hor_lt ha hb hc hd, ?_⟩
    have := num_hor ha hb hc hd 0
    rw [Nat.mul_zero, Nat.add_zero] at this
    rw [this]; rfl

end
end Go.W
