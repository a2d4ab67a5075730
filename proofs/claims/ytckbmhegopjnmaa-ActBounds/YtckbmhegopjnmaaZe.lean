/-
  Several texts in one: N2 N3 M13 M14 M15 M17 M21 M22 N4 N5 N6 N7 N8 N9 N10 M24 M25 M26 M27.
-/
import Derived.Test.YtckbmhegopjnmaaZd
import Derived.KernelRfl
import Derived.ChangeArms
namespace Go.W
theorem pr2 : Prim 2 := prim_tri (k := 1) (by decide) (by decide +kernel) (by decide)
theorem pr3 : Prim 3 := prim_tri (k := 1) (by decide) (by decide +kernel) (by decide)
theorem pr5 : Prim 5 := prim_tri (k := 2) (by decide) (by decide +kernel) (by decide)
theorem pr7 : Prim 7 := prim_tri (k := 2) (by decide) (by decide +kernel) (by decide)
theorem pr11 : Prim 11 := prim_tri (k := 3) (by decide) (by decide +kernel) (by decide)
theorem pr17 : Prim 17 := prim_tri (k := 4) (by decide) (by decide +kernel) (by decide)
theorem pr29 : Prim 29 := prim_tri (k := 5) (by decide) (by decide +kernel) (by decide)
theorem pr31 : Prim 31 := prim_tri (k := 5) (by decide) (by decide +kernel) (by decide)
theorem pr41 : Prim 41 := prim_tri (k := 6) (by decide) (by decide +kernel) (by decide)
theorem pr53 : Prim 53 := prim_tri (k := 7) (by decide) (by decide +kernel) (by decide)
theorem pr59 : Prim 59 := prim_tri (k := 7) (by decide) (by decide +kernel) (by decide)
theorem pr97 : Prim 97 := prim_tri (k := 9) (by decide) (by decide +kernel) (by decide)
theorem pr109 : Prim 109 := prim_tri (k := 10) (by decide) (by decide +kernel) (by decide)
theorem pr149 : Prim 149 := prim_tri (k := 12) (by decide) (by decide +kernel) (by decide)
theorem pr293 : Prim 293 := prim_tri (k := 17) (by decide) (by decide +kernel) (by decide)
theorem pr461 : Prim 461 := prim_tri (k := 21) (by decide) (by decide +kernel) (by decide)
theorem pr631 : Prim 631 := prim_tri (k := 25) (by decide) (by decide +kernel) (by decide)
theorem pr797 : Prim 797 := prim_tri (k := 28) (by decide) (by decide +kernel) (by decide)
theorem pr971 : Prim 971 := prim_tri (k := 31) (by decide) (by decide +kernel) (by decide)
theorem pr1373 : Prim 1373 := prim_tri (k := 37) (by decide) (by decide +kernel) (by decide)
theorem pr1627 : Prim 1627 := prim_tri (k := 40) (by decide) (by decide +kernel) (by decide)
theorem pr1871 : Prim 1871 := prim_tri (k := 43) (by decide) (by decide +kernel) (by decide)
theorem pr2011 : Prim 2011 := prim_tri (k := 44) (by decide) (by decide +kernel) (by decide)
theorem pr2621 : Prim 2621 := prim_tri (k := 51) (by decide) (by decide +kernel) (by decide)
theorem pr2657 : Prim 2657 := prim_tri (k := 51) (by decide) (by decide +kernel) (by decide)
theorem pr4051 : Prim 4051 := prim_tri (k := 63) (by decide) (by decide +kernel) (by decide)
theorem pr4423 : Prim 4423 := prim_tri (k := 66) (by decide) (by decide +kernel) (by decide)
theorem pr5323 : Prim 5323 := prim_tri (k := 72) (by decide) (by decide +kernel) (by decide)
theorem pr7723 : Prim 7723 := prim_tri (k := 87) (by decide) (by decide +kernel) (by decide)
theorem pr9349 : Prim 9349 := prim_tri (k := 96) (by decide) (by decide +kernel) (by decide)
theorem pr13441 : Prim 13441 := prim_tri (k := 115) (by decide) (by decide +kernel) (by decide)
theorem pr16699 : Prim 16699 := prim_tri (k := 129) (by decide) (by decide +kernel) (by decide)
theorem pr20113 : Prim 20113 := prim_tri (k := 141) (by decide) (by decide +kernel) (by decide)
theorem pr24809 : Prim 24809 := prim_tri (k := 157) (by decide) (by decide +kernel) (by decide)
theorem pr28181 : Prim 28181 := prim_tri (k := 167) (by decide) (by decide +kernel) (by decide)
theorem pr41201 : Prim 41201 := prim_tri (k := 202) (by decide) (by decide +kernel) (by decide)
theorem pr85831 : Prim 85831 := prim_tri (k := 292) (by decide) (by decide +kernel) (by decide)
theorem pr96557 : Prim 96557 := prim_tri (k := 310) (by decide) (by decide +kernel) (by decide)
theorem pr120233 : Prim 120233 := prim_tri (k := 346) (by decide) (by decide +kernel) (by decide)
theorem pr305873 : Prim 305873 := prim_tri (k := 553) (by decide) (by decide +kernel) (by decide)
theorem allP_nil : ∀ q ∈ ([] : List Nat), Prim q := by simp
theorem allP_cons {q : Nat} {l : List Nat} (h : Prim q) (hl : ∀ r ∈ l, Prim r) : ∀ r ∈ q :: l, Prim r := by
 intro r hr
 rcases List.mem_cons.1 hr with rfl | hr
 · exact h
 · exact hl r hr
theorem ge13331831 : Gen 13331831 13 := gen_cert (qs := [2, 5, 971, 1373]) (by decide +kernel) (allP_cons pr2 (allP_cons pr5 (allP_cons pr971 (allP_cons pr1373 allP_nil))))
theorem pr13331831 : Prim 13331831 := ge13331831.prim
theorem ge173378833005251801 : Gen 173378833005251801 6 := gen_cert (qs := [2, 2, 2, 5, 5, 2621, 24809, 13331831]) (by decide +kernel) (allP_cons pr2 (allP_cons pr2 (allP_cons pr2 (allP_cons pr5 (allP_cons pr5 (allP_cons pr2621 (allP_cons pr24809 (allP_cons pr13331831 allP_nil))))))))
theorem pr173378833005251801 : Prim 173378833005251801 := ge173378833005251801.prim
theorem ge22149492674086928081353 : Gen 22149492674086928081353 5 := gen_cert (qs := [2, 2, 2, 3, 5323, 173378833005251801]) (by decide +kernel) (allP_cons pr2 (allP_cons pr2 (allP_cons pr2 (allP_cons pr3 (allP_cons pr5323 (allP_cons pr173378833005251801 allP_nil))))))
theorem pr22149492674086928081353 : Prim 22149492674086928081353 := ge22149492674086928081353.prim
theorem ge132896956044521568488119 : Gen 132896956044521568488119 6 := gen_cert (qs := [2, 3, 22149492674086928081353]) (by decide +kernel) (allP_cons pr2 (allP_cons pr3 (allP_cons pr22149492674086928081353 allP_nil)))
theorem pr132896956044521568488119 : Prim 132896956044521568488119 := ge132896956044521568488119.prim
theorem ge1206781 : Gen 1206781 10 := gen_cert (qs := [2, 2, 3, 5, 20113]) (by decide +kernel) (allP_cons pr2 (allP_cons pr2 (allP_cons pr3 (allP_cons pr5 (allP_cons pr20113 allP_nil)))))
theorem pr1206781 : Prim 1206781 := ge1206781.prim
theorem ge7240687 : Gen 7240687 3 := gen_cert (qs := [2, 3, 1206781]) (by decide +kernel) (allP_cons pr2 (allP_cons pr3 (allP_cons pr1206781 allP_nil)))
theorem pr7240687 : Prim 7240687 := ge7240687.prim
theorem ge107590001 : Gen 107590001 3 := gen_cert (qs := [2, 2, 2, 2, 5, 5, 5, 5, 7, 29, 53]) (by decide +kernel) (allP_cons pr2 (allP_cons pr2 (allP_cons pr2 (allP_cons pr2 (allP_cons pr5 (allP_cons pr5 (allP_cons pr5 (allP_cons pr5 (allP_cons pr7 (allP_cons pr29 (allP_cons pr53 allP_nil)))))))))))
theorem pr107590001 : Prim 107590001 := ge107590001.prim
theorem ge255515944373312847190720520512484175977 : Gen 255515944373312847190720520512484175977 3 := gen_cert (qs := [2, 2, 2, 7, 7, 11, 1627, 2657, 4423, 41201, 96557, 7240687, 107590001]) (by decide +kernel) (allP_cons pr2 (allP_cons pr2 (allP_cons pr2 (allP_cons pr7 (allP_cons pr7 (allP_cons pr11 (allP_cons pr1627 (allP_cons pr2657 (allP_cons pr4423 (allP_cons pr41201 (allP_cons pr96557 (allP_cons pr7240687 (allP_cons pr107590001 allP_nil)))))))))))))
theorem pr255515944373312847190720520512484175977 : Prim 255515944373312847190720520512484175977 := ge255515944373312847190720520512484175977.prim
theorem ge205115282021455665897114700593932402728804164701536103180137503955397371 : Gen 205115282021455665897114700593932402728804164701536103180137503955397371 10 := gen_cert (qs := [2, 3, 5, 29, 29, 31, 7723, 132896956044521568488119, 255515944373312847190720520512484175977]) (by decide +kernel) (allP_cons pr2 (allP_cons pr3 (allP_cons pr5 (allP_cons pr29 (allP_cons pr29 (allP_cons pr31 (allP_cons pr7723 (allP_cons pr132896956044521568488119 (allP_cons pr255515944373312847190720520512484175977 allP_nil)))))))))
theorem pr205115282021455665897114700593932402728804164701536103180137503955397371 : Prim 205115282021455665897114700593932402728804164701536103180137503955397371 := ge205115282021455665897114700593932402728804164701536103180137503955397371.prim
theorem ge115792089237316195423570985008687907853269984665640564039457584007908834671663 : Gen 115792089237316195423570985008687907853269984665640564039457584007908834671663 3 := gen_cert (qs := [2, 3, 7, 13441, 205115282021455665897114700593932402728804164701536103180137503955397371]) (by decide +kernel) (allP_cons pr2 (allP_cons pr3 (allP_cons pr7 (allP_cons pr13441 (allP_cons pr205115282021455665897114700593932402728804164701536103180137503955397371 allP_nil)))))
theorem ge4681609 : Gen 4681609 23 := gen_cert (qs := [2, 2, 2, 3, 97, 2011]) (by decide +kernel) (allP_cons pr2 (allP_cons pr2 (allP_cons pr2 (allP_cons pr3 (allP_cons pr97 (allP_cons pr2011 allP_nil))))))
theorem pr4681609 : Prim 4681609 := ge4681609.prim
theorem ge107361793816595537 : Gen 107361793816595537 3 := gen_cert (qs := [2, 2, 2, 2, 16699, 85831, 4681609]) (by decide +kernel) (allP_cons pr2 (allP_cons pr2 (allP_cons pr2 (allP_cons pr2 (allP_cons pr16699 (allP_cons pr85831 (allP_cons pr4681609 allP_nil)))))))
theorem pr107361793816595537 : Prim 107361793816595537 := ge107361793816595537.prim
theorem ge44706919 : Gen 44706919 6 := gen_cert (qs := [2, 3, 797, 9349]) (by decide +kernel) (allP_cons pr2 (allP_cons pr3 (allP_cons pr797 (allP_cons pr9349 allP_nil))))
theorem pr44706919 : Prim 44706919 := ge44706919.prim
theorem ge174723607534414371449 : Gen 174723607534414371449 3 := gen_cert (qs := [2, 2, 2, 17, 59, 4051, 120233, 44706919]) (by decide +kernel) (allP_cons pr2 (allP_cons pr2 (allP_cons pr2 (allP_cons pr17 (allP_cons pr59 (allP_cons pr4051 (allP_cons pr120233 (allP_cons pr44706919 allP_nil))))))))
theorem pr174723607534414371449 : Prim 174723607534414371449 := ge174723607534414371449.prim
theorem ge545358713 : Gen 545358713 5 := gen_cert (qs := [2, 2, 2, 41, 59, 28181]) (by decide +kernel) (allP_cons pr2 (allP_cons pr2 (allP_cons pr2 (allP_cons pr41 (allP_cons pr59 (allP_cons pr28181 allP_nil))))))
theorem pr545358713 : Prim 545358713 := ge545358713.prim
theorem ge1627771 : Gen 1627771 3 := gen_cert (qs := [2, 3, 5, 29, 1871]) (by decide +kernel) (allP_cons pr2 (allP_cons pr3 (allP_cons pr5 (allP_cons pr29 (allP_cons pr1871 allP_nil)))))
theorem pr1627771 : Prim 1627771 := ge1627771.prim
theorem ge297159362677 : Gen 297159362677 2 := gen_cert (qs := [2, 2, 3, 3, 11, 461, 1627771]) (by decide +kernel) (allP_cons pr2 (allP_cons pr2 (allP_cons pr3 (allP_cons pr3 (allP_cons pr11 (allP_cons pr461 (allP_cons pr1627771 allP_nil)))))))
theorem pr297159362677 : Prim 297159362677 := ge297159362677.prim
theorem ge29047611873442575647497758179 : Gen 29047611873442575647497758179 2 := gen_cert (qs := [2, 293, 305873, 545358713, 297159362677]) (by decide +kernel) (allP_cons pr2 (allP_cons pr293 (allP_cons pr305873 (allP_cons pr545358713 (allP_cons pr297159362677 allP_nil)))))
theorem pr29047611873442575647497758179 : Prim 29047611873442575647497758179 := ge29047611873442575647497758179.prim
theorem ge341948486974166000522343609283189 : Gen 341948486974166000522343609283189 2 := gen_cert (qs := [2, 2, 3, 3, 3, 109, 29047611873442575647497758179]) (by decide +kernel) (allP_cons pr2 (allP_cons pr2 (allP_cons pr3 (allP_cons pr3 (allP_cons pr3 (allP_cons pr109 (allP_cons pr29047611873442575647497758179 allP_nil)))))))
theorem pr341948486974166000522343609283189 : Prim 341948486974166000522343609283189 := ge341948486974166000522343609283189.prim
theorem ge115792089237316195423570985008687907852837564279074904382605163141518161494337 : Gen 115792089237316195423570985008687907852837564279074904382605163141518161494337 7 := gen_cert (qs := [2, 2, 2, 2, 2, 2, 3, 149, 631, 107361793816595537, 174723607534414371449, 341948486974166000522343609283189]) (by decide +kernel) (allP_cons pr2 (allP_cons pr2 (allP_cons pr2 (allP_cons pr2 (allP_cons pr2 (allP_cons pr2 (allP_cons pr3 (allP_cons pr149 (allP_cons pr631 (allP_cons pr107361793816595537 (allP_cons pr174723607534414371449 (allP_cons pr341948486974166000522343609283189 allP_nil))))))))))))
def pP : Nat := 115792089237316195423570985008687907853269984665640564039457584007908834671663
def pN : Nat := 115792089237316195423570985008687907852837564279074904382605163141518161494337
def gP : Nat := 3
def gN : Nat := 7
theorem genP : Gen pP gP := ge115792089237316195423570985008687907853269984665640564039457584007908834671663
theorem genN : Gen pN gN := ge115792089237316195423570985008687907852837564279074904382605163141518161494337
end Go.W

namespace Go.W
theorem Gen.mul_ne {p g a b : Nat} (h : Gen p g) (ha : a % p ≠ 0) (hb : b % p ≠ 0) : a * b % p ≠ 0 := by
 intro h0
 have h1 := h.fermat ha
 have h2 := h.fermat hb
 have h3 : (a * b) ^ (p - 1) % p = 1 := by rw [Nat.mul_pow, Nat.mul_mod, h1, h2]; exact Nat.mod_eq_of_lt h.1
 rw [Nat.pow_mod, h0] at h3
 have hp := h.1
 rw [Nat.zero_pow (by omega), Nat.zero_mod] at h3
 omega
theorem Gen.inv {p g a : Nat} (h : Gen p g) (ha : a % p ≠ 0) : a * a ^ (p - 2) % p = 1 := by
 have hp := h.1
 rw [<- Nat.pow_succ', Nat.succ_eq_add_one, show p - 2 + 1 = p - 1 from by omega]
 exact h.fermat ha
theorem Gen.cancel {p g a b c : Nat} (h : Gen p g) (ha : a % p ≠ 0) (he : a * b % p = a * c % p) : b % p = c % p := by
 have hi := h.inv ha
 have key : ∀ x, x % p = a ^ (p - 2) * (a * x) % p := by
  intro x
  rw [<- Nat.mul_assoc, Nat.mul_comm (a ^ (p - 2)) a, Nat.mul_mod, hi, Nat.one_mul, Nat.mod_mod]
 rw [key b, key c, Nat.mul_mod, he, <- Nat.mul_mod]
theorem Gen.pow_self {p g : Nat} (h : Gen p g) (a : Nat) : a ^ p % p = a % p := by
 have hp := h.1
 have e : a ^ p = a * a ^ (p - 1) := by rw [<- Nat.pow_succ', Nat.succ_eq_add_one]; congr 1; omega
 by_cases ha : a % p = 0
 · rw [e, Nat.mul_mod, ha, Nat.zero_mul, Nat.zero_mod]
 · rw [e, Nat.mul_mod, h.fermat ha, Nat.mul_one, Nat.mod_mod]
theorem Gen.sq_eq {p g a b : Nat} (h : Gen p g) (he : a * a % p = b * b % p) : a % p = b % p ∨ (a + b) % p = 0 := by
 by_cases hs : (a + b) % p = 0
 · exact .inr hs
 · left
  have hp := h.1
  -- (a + b) a = a a + a b = b b + a b = (a + b) b
  refine h.cancel (a := a + b) hs ?_
  have e1 : (a + b) * a = a * a + a * b := by rw [Nat.add_mul, Nat.mul_comm b a]
  have e2 : (a + b) * b = b * b + a * b := by rw [Nat.add_mul, Nat.add_comm]
  rw [e1, e2, Nat.add_mod, he, <- Nat.add_mod]
theorem Gen.root {p g a b : Nat} (h : Gen p g) (h4 : p % 4 = 3) (hb : b * b % p = a % p) : a ^ ((p + 1) / 4) * a ^ ((p + 1) / 4) % p = a % p := by
 rw [<- Nat.pow_add]
 have hp := h.1
 have hexp : (p + 1) / 4 + (p + 1) / 4 = (p - 1) / 2 + 1 := by omega
 rw [hexp]
 have e0 : a ^ ((p - 1) / 2 + 1) % p = (b * b) ^ ((p - 1) / 2 + 1) % p := by rw [Nat.pow_mod, <- hb, <- Nat.pow_mod]
 have e1 : (b * b) ^ ((p - 1) / 2 + 1) = b * b ^ p := by
  rw [show b * b = b ^ 2 from (Nat.pow_two b).symm, <- Nat.pow_mul, <- Nat.pow_succ']
  congr 1; omega
 rw [e0, e1, Nat.mul_mod, h.pow_self, <- Nat.mul_mod, hb]
end Go.W

namespace Go.W
def sP : Nat := 4294968273
def sN : Nat := 432420386565659656852420866394968145599
def primeN (w : Int) : Nat := if w = 0 then pP else if w = 1 then pN else 0
def smallN (w : Int) : Nat := if w = 1 then sN else sP
def okW (w : Int) : Bool := w == 0 || w == 1
theorem okW_iff {w : Int} : okW w = true ↔ w = 0 ∨ w = 1 := by simp [okW]
theorem primeN_small {w : Int} (h : okW w = true) : primeN w + smallN w = 2 ^ 256 ∧ primeN w < 2 ^ 256 ∧ smallN w < 2 ^ 129 ∧ 2 ^ 255 < primeN w := by
 rcases okW_iff.1 h with rfl | rfl
 · show pP + sP = 2 ^ 256 ∧ pP < 2 ^ 256 ∧ sP < 2 ^ 129 ∧ 2 ^ 255 < pP
  unfold pP sP; omega
 · show pN + sN = 2 ^ 256 ∧ pN < 2 ^ 256 ∧ sN < 2 ^ 129 ∧ 2 ^ 255 < pN
  unfold pN sN; omega
theorem primeN_gen {w : Int} (h : okW w = true) : ∃ g, Gen (primeN w) g := by
 rcases okW_iff.1 h with rfl | rfl
 · exact ⟨gP, genP⟩
 · exact ⟨gN, genN⟩
def fdL (s lo hi : Nat) : Nat := (hi * s + lo) % 2 ^ 256
def fdH (s lo hi : Nat) : Nat := (hi * s + lo) / 2 ^ 256
def fdK (s lo hi : Nat) : Nat -> Nat × Nat
 | 0 => (lo, hi)
 | k + 1 => (fdL s (fdK s lo hi k).1 (fdK s lo hi k).2, fdH s (fdK s lo hi k).1 (fdK s lo hi k).2)
theorem fd_mod {p s lo hi : Nat} (h : p + s = 2 ^ 256) : (fdH s lo hi * 2 ^ 256 + fdL s lo hi) % p = (hi * 2 ^ 256 + lo) % p := by
 have e : fdH s lo hi * 2 ^ 256 + fdL s lo hi = hi * s + lo := by unfold fdH fdL; rw [Nat.mul_comm]; exact Nat.div_add_mod _ _
 rw [e, <- h, Nat.mul_add, Nat.add_assoc, Nat.add_comm (hi * p), Nat.add_mul_mod_self_right]
theorem fdK_mod {p s lo hi : Nat} (h : p + s = 2 ^ 256) : ∀ k, ((fdK s lo hi k).2 * 2 ^ 256 + (fdK s lo hi k).1) % p = (hi * 2 ^ 256 + lo) % p
 | 0 => rfl
 | k + 1 => (fd_mod h).trans (fdK_mod h k)
theorem fdL_lt (s lo hi : Nat) : fdL s lo hi < 2 ^ 256 := Nat.mod_lt _ (by decide)
theorem fdK_lt {s lo hi : Nat} (hlo : lo < 2 ^ 256) (hhi : hi < 2 ^ 256) (hs : s < 2 ^ 129) : ∀ k, (fdK s lo hi k).1 < 2 ^ 256 ∧ (fdK s lo hi k).2 < 2 ^ 256
 | 0 => ⟨hlo, hhi⟩
 | k + 1 => by
  obtain ⟨h1, h2⟩ := fdK_lt hlo hhi hs k
  refine ⟨fdL_lt _ _ _, ?_⟩
  show fdH s (fdK s lo hi k).1 (fdK s lo hi k).2 < 2 ^ 256
  unfold fdH
  have : (fdK s lo hi k).2 * s <= (2 ^ 256 - 1) * (2 ^ 129 - 1) := Nat.mul_le_mul (by omega) (by omega)
  omega
theorem fdK_end {s lo hi : Nat} (hlo : lo < 2 ^ 256) (hhi : hi < 2 ^ 256) (hs : s < 2 ^ 129) : (fdK s lo hi 4).2 = 0 := by
 have step : ∀ k, (fdK s lo hi (k + 1)).2 = ((fdK s lo hi k).2 * s + (fdK s lo hi k).1) / 2 ^ 256 ∧ (fdK s lo hi (k + 1)).1 = ((fdK s lo hi k).2 * s + (fdK s lo hi k).1) % 2 ^ 256 := fun k => ⟨rfl, rfl⟩
 obtain ⟨a1, b1⟩ := step 0
 obtain ⟨a2, b2⟩ := step 1
 obtain ⟨a3, b3⟩ := step 2
 obtain ⟨a4, b4⟩ := step 3
 have l0 := (fdK_lt hlo hhi hs 0).1
 have l1 := (fdK_lt hlo hhi hs 1).1
 have l2 := (fdK_lt hlo hhi hs 2).1
 have m0 : (fdK s lo hi 0).2 * s <= (2 ^ 256 - 1) * (2 ^ 129 - 1) := Nat.mul_le_mul (by have := (fdK_lt hlo hhi hs 0).2; omega) (by omega)
 have c1 : (fdK s lo hi 1).2 <= 2 ^ 129 := by rw [a1]; omega
 have m1 : (fdK s lo hi 1).2 * s <= 2 ^ 129 * (2 ^ 129 - 1) := Nat.mul_le_mul c1 (by omega)
 have c2 : (fdK s lo hi 2).2 <= 4 := by rw [a2]; omega
 have m2 : (fdK s lo hi 2).2 * s <= 4 * (2 ^ 129 - 1) := Nat.mul_le_mul c2 (by omega)
 have c3 : (fdK s lo hi 3).2 <= 1 := by rw [a3]; omega
 rw [a4]
 have hcase : (fdK s lo hi 3).2 = 0 ∨ (fdK s lo hi 3).2 = 1 := by omega
 rcases hcase with h | h
 · have := (fdK_lt hlo hhi hs 3).1
  rw [h, Nat.zero_mul, Nat.zero_add, Nat.div_eq_of_lt this]
 · rw [h, Nat.one_mul]
  have hb3 : (fdK s lo hi 3).1 <= 4 * (2 ^ 129 - 1) := by
   rw [a3] at h
   rw [b3]
   omega
  omega
theorem fdK_first {s lo hi : Nat} (hlo : lo < 2 ^ 256) (hhi : hi < 2 ^ 256) (hs : s < 2 ^ 129) : ∃ N, (fdK s lo hi N).2 = 0 ∧ ∀ k, k < N -> (fdK s lo hi k).2 ≠ 0 := by
 have h4 := fdK_end hlo hhi hs
 by_cases h0 : (fdK s lo hi 0).2 = 0
 · exact ⟨0, h0, by omega⟩
 by_cases h1 : (fdK s lo hi 1).2 = 0
 · refine ⟨1, h1, fun k hk => ?_⟩
  have : k = 0 := by omega
  subst this; exact h0
 by_cases h2 : (fdK s lo hi 2).2 = 0
 · refine ⟨2, h2, fun k hk => ?_⟩
  have : k = 0 ∨ k = 1 := by omega
  rcases this with rfl | rfl <;> assumption
 by_cases h3 : (fdK s lo hi 3).2 = 0
 · refine ⟨3, h3, fun k hk => ?_⟩
  have : k = 0 ∨ k = 1 ∨ k = 2 := by omega
  rcases this with rfl | rfl | rfl <;> assumption
 · refine ⟨4, h4, fun k hk => ?_⟩
  have : k = 0 ∨ k = 1 ∨ k = 2 ∨ k = 3 := by omega
  rcases this with rfl | rfl | rfl | rfl <;> assumption
def pwM (A E m k : Nat) : Nat := A ^ (E / 2 ^ (256 - k)) % m
theorem pwM_last (A E m : Nat) : pwM A E m 256 = A ^ E % m := by
 unfold pwM; rw [Nat.sub_self, Nat.pow_zero, Nat.div_one]
theorem pwM_bits {E k : Nat} (hk : k < 256) : E / 2 ^ (256 - (k + 1)) = 2 * (E / 2 ^ (256 - k)) + bitN E (255 - k) := by
 unfold bitN
 rw [show 256 - k = (255 - k) + 1 from by omega, show 256 - (k + 1) = 255 - k from by omega, Nat.pow_succ, <- Nat.div_div_eq_div_mul]
 omega
theorem pwM_sq {A E m k : Nat} : pwM A E m k * pwM A E m k % m = A ^ (2 * (E / 2 ^ (256 - k))) % m := by
 unfold pwM
 rw [<- Nat.mul_mod, <- Nat.pow_add]
 congr 2; omega
theorem pwM_step0 {A E m k : Nat} (hk : k < 256) (h : bitN E (255 - k) = 0) : pwM A E m k * pwM A E m k % m = pwM A E m (k + 1) := by
 rw [pwM_sq]; unfold pwM; rw [pwM_bits hk, h, Nat.add_zero]
theorem pwM_step1 {A E m k : Nat} (hk : k < 256) (h : bitN E (255 - k) = 1) : pwM A E m k * pwM A E m k % m * A % m = pwM A E m (k + 1) := by
 rw [pwM_sq]; unfold pwM; rw [pwM_bits hk, h, Nat.pow_succ, Nat.mul_mod, Nat.mod_mod, <- Nat.mul_mod]
end Go.W

namespace Go.W
def PrimeF : List Value -> Option (Bool × Value)
 | [.int .i64 w] => some (true, num (primeN w))
 | _ => none
def okF : List Value -> Option (Bool × Value)
 | [.int .i64 w] => some (true, .bool (okW w))
 | _ => none
def okT (w : Int) : Option Value := bif w == 0 then some (.bool true) else some (.bool (w == 1))
theorem okT_eq (w : Int) : okT w = some (.bool (okW w)) := by
 unfold okT okW
 cases w == 0 <;> rfl
def fdR {α : Type} (lo hi s : Value) (k : Nat -> Nat -> Option α) (out : Option α) : Option α :=
 bif !(eqV hi (num 0)) then (r2 hi s <| r2 lo (mL hi s) <| r2 (mH hi s) (one (aC lo (mL hi s))) <| k (unnum lo + unnum (mL hi s)) (unnum (mH hi s) + unnum (one (aC lo (mL hi s))))) else out
theorem cells4_mod (X : Nat) : cells4 (X % 2 ^ 256) = cells4 X := by
 have := congrArg (fun v : Value => v.cells.toList) (num_mod X)
 exact this
theorem fdR_eq {α : Type} {lo hi s : Nat} (hlo : lo < 2 ^ 256) (hhi : hi < 2 ^ 256) (hs : s < 2 ^ 129) (h0 : hi ≠ 0) (K : List Value -> List Value -> Option α) (out : Option α) :
  fdR (num lo) (num hi) (num s) (fun x y => K (cells4 x) (cells4 y)) out = K (cells4 (fdL s lo hi)) (cells4 (fdH s lo hi)) := by
 have hs' : s < 2 ^ 256 := by omega
 unfold fdR
 have hne : eqV (num hi) (num 0) = false := by rw [eqV_num]; exact decide_eq_false (by rw [Nat.mod_eq_of_lt hhi]; simpa using h0)
 have hm : hi * s <= (2 ^ 256 - 1) * (2 ^ 129 - 1) := Nat.mul_le_mul (by omega) (by omega)
 rw [hne, mL_num, mH_num hhi hs', one_num (aC_lt _ _), r2_num, r2_num, r2_num, aC_num, unnum_num, unnum_num, unnum_num, unnum_num, Nat.mod_eq_of_lt hlo]
 show K (cells4 (lo + hi * s % 2 ^ 256)) (cells4 (hi * s / 2 ^ 256 % 2 ^ 256 + (lo + hi * s % 2 ^ 256) / 2 ^ 256 % 2 ^ 256)) = _
 unfold fdL fdH
 generalize hi * s = z at *
 have e1 : (z + lo) % 2 ^ 256 = (lo + z % 2 ^ 256) % 2 ^ 256 := by omega
 have e2 : z / 2 ^ 256 % 2 ^ 256 + (lo + z % 2 ^ 256) / 2 ^ 256 % 2 ^ 256 = (z + lo) / 2 ^ 256 := by omega
 rw [e1, cells4_mod, e2]
theorem fdR_out {α : Type} {lo s : Nat} (k : Nat -> Nat -> Option α) (out : Option α) : fdR (num lo) (num 0) (num s) k out = out := by
 unfold fdR
 rw [show eqV (num 0) (num 0) = true from by rw [eqV_num]; exact decide_eq_true rfl]; rfl
def redN (w : Int) (A : Nat) : Nat := if okW w = true then A % primeN w else 0
def faddN (w : Int) (A B : Nat) : Nat := redN w (A + B)
def fmulN (w : Int) (A B : Nat) : Nat := redN w (A * B)
def fsubN (w : Int) (A B : Nat) : Nat := redN w (A + (primeN w - B % primeN w))
def RedF : List Value -> Option (Bool × Value)
 | [.int .i64 w, a] => some (isNum a, num (redN w (unnum a)))
 | _ => none
def FAddF : List Value -> Option (Bool × Value)
 | [.int .i64 w, a, b] => some (isNum a && isNum b, num (faddN w (unnum a) (unnum b)))
 | _ => none
def FSubF : List Value -> Option (Bool × Value)
 | [.int .i64 w, a, b] => some (isNum a && isNum b, num (fsubN w (unnum a) (unnum b)))
 | _ => none
def FMulF : List Value -> Option (Bool × Value)
 | [.int .i64 w, a, b] => some (isNum a && isNum b, num (fmulN w (unnum a) (unnum b)))
 | _ => none
theorem redN_lt {w : Int} (A : Nat) : redN w A < 2 ^ 256 := by
 unfold redN
 split
 · rename_i h
  obtain ⟨_, h2, _, h4⟩ := primeN_small h
  exact Nat.lt_trans (Nat.mod_lt _ (by omega)) h2
 · decide
def rRed (w : Int) (a : Value) : Value := num (redN w (unnum a))
def powS (A E m : Nat) : Nat :=
 match A with
 | 0 => powF 256 0 E m
 | a + 1 => powF 256 (a + 1) E m
theorem powS_eq {A E m : Nat} (h : E < 2 ^ 256) : powS A E m = A ^ E % m := by
 cases A <;> exact powF_eq 256 _ E m h
def powN (w : Int) (A E : Nat) : Nat := if okW w = true then powS A E (primeN w) else 0
theorem powN_ok {w : Int} {A E : Nat} (hw : okW w = true) (hE : E < 2 ^ 256) : powN w A E = A ^ E % primeN w := by unfold powN; rw [if_pos hw, powS_eq hE]
theorem powN_no {w : Int} {A E : Nat} (hw : ¬ okW w = true) : powN w A E = 0 := by unfold powN; rw [if_neg hw]
theorem powN_lt {w : Int} {A E : Nat} (hE : E < 2 ^ 256) : powN w A E < 2 ^ 256 := by
 by_cases h : okW w = true
 · obtain ⟨_, h2, _, h4⟩ := primeN_small h
  rw [powN_ok h hE]; exact Nat.lt_trans (Nat.mod_lt _ (by omega)) h2
 · rw [powN_no h]; decide
def PowF : List Value -> Option (Bool × Value)
 | [.int .i64 w, a, e] => some (isNum a && isNum e, num (powN w (unnum a) (unnum e)))
 | _ => none
def powR {α : Type} (w : Int) (a e o : Value) (i : Int) (k : Nat -> Option α) : Option α :=
 r2 o o <| req (isNum e) <| bif bitI (unnum e) i == 1 then (r2 (num (fmulN w (unnum o) (unnum o))) a <| k (fmulN w (unnum (num (fmulN w (unnum o) (unnum o)))) (unnum a))) else k (fmulN w (unnum o) (unnum o))
theorem powR_eq {α : Type} {w : Int} (h : okW w = true) {A E k : Nat} (hA : A < 2 ^ 256) (hE : E < 2 ^ 256) (hk : k < 256) (K : Nat -> Option α) :
  powR w (num A) (num E) (num (pwM A E (primeN w) k)) (255 - (k : Int)) K = K (pwM A E (primeN w) (k + 1)) := by
 obtain ⟨_, hp, _, hp2⟩ := primeN_small h
 have hM : ∀ j, pwM A E (primeN w) j < 2 ^ 256 := fun j => Nat.lt_trans (Nat.mod_lt _ (by omega)) hp
 have hmul : ∀ X Y, fmulN w X Y = X * Y % primeN w := fun X Y => by unfold fmulN redN; rw [h, if_pos rfl]
 have hi : (255 - (k : Int)) = ((255 - k : Nat) : Int) := by omega
 unfold powR
 rw [r2_num, isNum_num, req_true rfl, unnum_lt hE, hi, bitI_nat (by omega), unnum_lt (hM k), r2_num, unnum_lt hA, hmul, hmul, unnum_lt (Nat.lt_trans (Nat.mod_lt _ (by omega)) hp)]
 rcases Nat.mod_two_eq_zero_or_one (E / 2 ^ (255 - k)) with h0 | h1
 · have hb : bitN E (255 - k) = 0 := h0
  rw [hb, pwM_step0 hk hb]; rfl
 · have hb : bitN E (255 - k) = 1 := h1
  rw [hb, pwM_step1 hk hb]; rfl
def InvF : List Value -> Option (Bool × Value)
 | [.int .i64 w, a] => some (isNum a, num (powN w (unnum a) (primeN w - 2)))
 | _ => none
def InvRT (w : Int) (a two : Value) : Option Value := r2 (num (primeN w)) two <| r2 a (sD (num (primeN w)) two) <| some (num (powN w (unnum a) (unnum (sD (num (primeN w)) two))))
theorem InvRT_eq {w : Int} {A : Nat} (hA : A < 2 ^ 256) : InvRT w (num A) (num 2) = some (num (powN w A (primeN w - 2))) := by
 unfold InvRT
 rw [sD_num, r2_num, r2_num, unnum_lt hA, unnum_num]
 by_cases h : okW w = true
 · obtain ⟨_, hp, _, hp2⟩ := primeN_small h
  rw [Nat.mod_eq_of_lt hp]
  congr 3
  omega
 · rw [powN_no h, powN_no h]
end Go.W

namespace Go.W
def qP : Nat := 28948022309329048855892746252171976963317496166410141009864396001977208667916
theorem qP_eq : qP = (pP + 1) / 4 := by decide
def rootR (A : Nat) : Nat := powN 0 (redN 0 A) qP
def rootIs (A : Nat) : Bool := decide (fmulN 0 (rootR A) (rootR A) = redN 0 A)
def rootNum (A : Nat) : Nat := if fmulN 0 (rootR A) (rootR A) = redN 0 A then (if rootR A % 2 = 1 then fsubN 0 0 (rootR A) else rootR A) else 0
def rootV (A : Nat) : Value := .tuple #[num (rootNum A), .bool (rootIs A)]
def RootF : List Value -> Option (Bool × Value)
 | [a] => some (isNum a, rootV (unnum a))
 | _ => none
theorem qP_lt : qP < 2 ^ 256 := by decide
def readN (w : Int) (X : Nat) : Nat := if okW w = true then (if X < primeN w then X else 0) else 0
def readE (w : Int) (X : Nat) : Int := if okW w = true then (if X < primeN w then 0 else 2) else 1
def readV (w : Int) (X : Nat) : Value := .tuple #[num (readN w X), i64 (readE w X)]
def ReadF : List Value -> Option (Bool × Value)
 | [.int .i64 w, b] => some (isB32 b, readV w (unbytes b))
 | _ => none
end Go.W

namespace Go.W
theorem redN_ok {w : Int} (h : okW w = true) (A : Nat) : redN w A = A % primeN w := by unfold redN; rw [if_pos h]
theorem faddN_ok {w : Int} (h : okW w = true) (A B : Nat) : faddN w A B = (A + B) % primeN w := redN_ok h _
theorem fmulN_ok {w : Int} (h : okW w = true) (A B : Nat) : fmulN w A B = A * B % primeN w := redN_ok h _
theorem fsubN_ok {w : Int} (h : okW w = true) (A B : Nat) : fsubN w A B = (A + (primeN w - B % primeN w)) % primeN w := redN_ok h _
theorem redN_no {w : Int} (h : ¬ okW w = true) (A : Nat) : redN w A = 0 := by unfold redN; rw [if_neg h]
theorem sub_add_mod {p A B : Nat} (hp : 0 < p) : ((A + (p - B % p)) % p + B) % p = A % p := by
 have h := Nat.mod_lt B hp
 have e := Nat.div_add_mod B p
 rw [Nat.mod_add_mod]
 have : A + (p - B % p) + B = A + p * (B / p + 1) := by rw [Nat.mul_add, Nat.mul_one]; omega
 rw [this, Nat.add_mul_mod_self_left]
theorem neg_add {p A : Nat} (hp : 0 < p) : ((0 + (p - A % p)) % p + A) % p = 0 := by rw [sub_add_mod hp, Nat.zero_mod]
theorem add_cancel_mod {p A B C : Nat} (hp : 0 < p) (h : (A + C) % p = (B + C) % p) : A % p = B % p := by
 have key : ∀ X, X % p = ((X + C) % p + (p - C % p)) % p := by
  intro X
  have h1 := Nat.mod_lt C hp
  have e := Nat.div_add_mod C p
  rw [Nat.mod_add_mod]
  have : X + C + (p - C % p) = X + p * (C / p + 1) := by rw [Nat.mul_add, Nat.mul_one]; omega
  rw [this, Nat.add_mul_mod_self_left]
 rw [key A, key B, h]
theorem okW_pos {w : Int} (h : okW w = true) : 1 < primeN w ∧ 0 < primeN w ∧ primeN w < 2 ^ 256 := by
 obtain ⟨_, h2, _, h4⟩ := primeN_small h; omega
theorem inv_ok {w : Int} (h : okW w = true) {A : Nat} (hA : A % primeN w ≠ 0) : A * powN w A (primeN w - 2) % primeN w = 1 := by
 obtain ⟨g, hg⟩ := primeN_gen h
 have hp := okW_pos h
 rw [powN_ok h (by omega), Nat.mul_mod_mod]
 exact hg.inv hA
end Go.W

namespace Go.W
theorem ok0 : okW 0 = true := rfl
theorem prime0 : primeN 0 = pP := rfl
theorem pP_facts : 1 < pP ∧ pP < 2 ^ 256 ∧ pP % 4 = 3 ∧ pP % 2 = 1 := by decide
theorem rootR_eq (X : Nat) : rootR X = X ^ qP % pP := by
 unfold rootR
 rw [powN_ok ok0 qP_lt, redN_ok ok0, prime0, <- Nat.pow_mod]
theorem rootIs_iff (X : Nat) : rootIs X = true ↔ rootR X * rootR X % pP = X % pP := by
 unfold rootIs
 rw [fmulN_ok ok0, redN_ok ok0, prime0, decide_eq_true_eq]
theorem root_of_sq {X b : Nat} (h : b * b % pP = X % pP) : rootIs X = true := by
 rw [rootIs_iff, rootR_eq, <- Nat.mul_mod, qP_eq]
 exact genP.root pP_facts.2.2.1 h
theorem neg_sq {p R : Nat} (hp : 0 < p) : ((0 + (p - R % p)) % p) * ((0 + (p - R % p)) % p) % p = R * R % p := by
 have hneg : ((0 + (p - R % p)) % p + R) % p = 0 := neg_add hp
 generalize (0 + (p - R % p)) % p = n at *
 have h1 : (n * n + n * R) % p = (R * R + n * R) % p := by
  rw [<- Nat.mul_add, Nat.mul_mod, hneg, Nat.mul_zero, Nat.zero_mod, Nat.add_comm (R * R), <- Nat.add_mul, Nat.mul_mod, hneg, Nat.zero_mul, Nat.zero_mod]
 exact add_cancel_mod hp h1
theorem root_sq {X : Nat} (h : rootIs X = true) : rootNum X * rootNum X % pP = X % pP ∧ rootNum X % 2 = 0 ∧ rootNum X < pP := by
 obtain ⟨h1, h2, h3, h4⟩ := pP_facts
 have hs := (rootIs_iff X).1 h
 have hR : rootR X < pP := by rw [rootR_eq]; exact Nat.mod_lt _ (by omega)
 have hc : fmulN 0 (rootR X) (rootR X) = redN 0 X := by rw [fmulN_ok ok0, redN_ok ok0, prime0]; exact hs
 unfold rootNum
 rw [if_pos hc]
 by_cases hodd : rootR X % 2 = 1
 · rw [if_pos hodd, fsubN_ok ok0, prime0]
  refine ⟨(neg_sq (by omega)).trans hs, ?_, Nat.mod_lt _ (by omega)⟩
  rw [Nat.mod_eq_of_lt hR, Nat.zero_add, Nat.mod_eq_of_lt (show pP - rootR X < pP by omega)]
  omega
 · rw [if_neg hodd]
  exact ⟨hs, by omega, hR⟩
end Go.W

namespace Go.W
noncomputable def hideN (n : Nat) : Nat := Classical.choose (⟨n, rfl⟩ : ∃ x : Nat, x = n)
theorem hideN_eq (n : Nat) : hideN n = n := Classical.choose_spec (⟨n, rfl⟩ : ∃ x : Nat, x = n)
noncomputable def Mul64H : List Value -> Option (Bool × Value)
 | [x, y] => some (isU64 x && isU64 y, .tuple #[u64 (hideN (intN x * intN y) / 18446744073709551616), u64 (hideN (intN x * intN y) % 18446744073709551616)])
 | _ => none
theorem Mul64H_eq : Mul64H = Mul64F := by
 funext l
 unfold Mul64H Mul64F
 simp only [hideN_eq]
 rfl
def PrimeT (w : Int) : Option Value := bif w == 0 then some (num pP) else bif w == 1 then some (num pN) else some (num 0)
theorem PrimeT_eq (w : Int) : PrimeT w = some (num (primeN w)) := by
 unfold PrimeT primeN
 by_cases h0 : w = 0
 · subst h0; rfl
 · rw [if_neg h0, show (w == 0) = false from beq_eq_false_iff_ne.2 h0]
  by_cases h1 : w = 1
  · subst h1; rfl
  · rw [if_neg h1, show (w == 1) = false from beq_eq_false_iff_ne.2 h1]; rfl
def gapN (w : Int) : Nat := if w = 0 then sP else sN
noncomputable def GapF : List Value -> Option (Bool × Value)
 | [.int .i64 w] => some (true, num (hideN (gapN w)))
 | _ => none
def gapT (w : Int) : Option Value := bif w == 0 then some (num sP) else some (num sN)
theorem gapT_eq (w : Int) : gapT w = some (num (hideN (gapN w))) := by
 rw [hideN_eq]; unfold gapT gapN
 by_cases h : w = 0
 · subst h; rfl
 · rw [if_neg h, show (w == 0) = false from beq_eq_false_iff_ne.2 h]; rfl
theorem gap_small {w : Int} (h : okW w = true) : gapN w = smallN w := by
 rcases okW_iff.1 h with rfl | rfl <;> rfl
def LowF : List Value -> Option (Bool × Value)
 | [.int .i64 w, a] => some (okW w && isNum a, num (unnum a % primeN w))
 | _ => none
def lowT (w : Int) (a : Value) : Option Value := r2 a (num (primeN w)) <| bif ((sB a (num (primeN w)) : Nat) : Int) == 1 then some a else some (sD a (num (primeN w)))
theorem lowT_eq {w : Int} (h : okW w = true) {A : Nat} (hA : A < 2 ^ 256) : lowT w (num A) = some (num (A % primeN w)) := by
 obtain ⟨_, hp, _, hp2⟩ := primeN_small h
 unfold lowT
 rw [r2_num, sB_num, sD_num, Nat.mod_eq_of_lt hA, Nat.mod_eq_of_lt hp]
 by_cases hlt : A < primeN w
 · rw [if_pos hlt, Nat.mod_eq_of_lt hlt]; rfl
 · rw [if_neg hlt, Nat.mod_eq_sub_mod (by omega), Nat.mod_eq_of_lt (by omega), show 2 ^ 256 + A - primeN w = A - primeN w + 2 ^ 256 * 1 from by omega, num_add_mul]; rfl
def upS (g T : Nat) : Nat -> Nat
 | 0 => T
 | k + 1 => upS g T k % 2 ^ 256 + g
def upN (g T : Nat) : Nat := if T < 2 ^ 256 then T else if T % 2 ^ 256 + g < 2 ^ 256 then T % 2 ^ 256 + g else (T % 2 ^ 256 + g) % 2 ^ 256 + g
theorem up_first {g T : Nat} (hg : g < 2 ^ 129) (hT : T < 2 ^ 256 + 2 ^ 256) : ∃ n, upS g T n = upN g T ∧ upN g T < 2 ^ 256 ∧ ∀ k, k < n -> upS g T k / 2 ^ 256 = 1 := by
 unfold upN
 by_cases h0 : T < 2 ^ 256
 · exact ⟨0, by rw [if_pos h0]; rfl, by rw [if_pos h0]; exact h0, by omega⟩
 · rw [if_neg h0]
  by_cases h1 : T % 2 ^ 256 + g < 2 ^ 256
  · rw [if_pos h1]
   refine ⟨1, rfl, h1, fun k hk => ?_⟩
   have : k = 0 := by omega
   subst this
   show T / 2 ^ 256 = 1
   omega
  · rw [if_neg h1]
   refine ⟨2, rfl, by omega, fun k hk => ?_⟩
   have : k = 0 ∨ k = 1 := by omega
   rcases this with rfl | rfl
   · show T / 2 ^ 256 = 1
    omega
   · show (T % 2 ^ 256 + g) / 2 ^ 256 = 1
    omega
theorem up_mod {p g T : Nat} (hp : p + g = 2 ^ 256) (hg : g < 2 ^ 129) (hT : T < 2 ^ 256 + 2 ^ 256) : upN g T % p = T % p := by
 have step : ∀ X, X / 2 ^ 256 = 1 -> (X % 2 ^ 256 + g) % p = X % p := by
  intro X hX
  have : X = X % 2 ^ 256 + g + p := by omega
  rw [show X % p = (X % 2 ^ 256 + g + p) % p from by rw [<- this], Nat.add_mod_right]
 unfold upN
 split
 · rfl
 · split
  · exact step T (by omega)
  · rw [step (T % 2 ^ 256 + g) (by omega), step T (by omega)]
def AddUpF : List Value -> Option (Bool × Value)
 | [.int .i64 w, a, b] => some (okW w && isNum a && isNum b, num (upN (gapN w) (unnum a + unnum b)))
 | _ => none
def upR {α : Type} (t g : Value) (c : Nat) (k : Nat -> Nat -> Option α) (out : Option α) : Option α :=
 bif ((c : Nat) : Int) == 1 then (r2 t g <| k (unnum t + unnum g) ((unnum t + unnum g) / 2 ^ 256)) else out
theorem upR_eq {α : Type} {T g c : Nat} (hg : g < 2 ^ 129) (hc : c = 1) (k : Nat -> Nat -> Option α) (out : Option α) : upR (num T) (num g) c k out = k (T % 2 ^ 256 + g) ((T % 2 ^ 256 + g) / 2 ^ 256) := by
 unfold upR
 rw [r2_num, unnum_num, unnum_lt (show g < 2 ^ 256 by omega), hc]; rfl
theorem upR_out {α : Type} {t g : Value} (k : Nat -> Nat -> Option α) (out : Option α) : upR t g 0 k out = out := rfl
def dnN (g A B : Nat) : Nat := if B <= A then A - B else if g <= 2 ^ 256 + A - B then 2 ^ 256 + A - B - g else 2 ^ 256 + (2 ^ 256 + A - B) - g - g
def dnS (g A B : Nat) : Nat -> Nat × Nat
 | 0 => (2 ^ 256 + A - B, if A < B then 1 else 0)
 | k + 1 => (2 ^ 256 + (dnS g A B k).1 % 2 ^ 256 - g, if (dnS g A B k).1 % 2 ^ 256 < g then 1 else 0)
theorem dn_first {g A B : Nat} (hg : g < 2 ^ 129) (hA : A < 2 ^ 256) (hB : B < 2 ^ 256) : ∃ n, (dnS g A B n).2 = 0 ∧ (dnS g A B n).1 % 2 ^ 256 = dnN g A B ∧ ∀ k, k < n -> (dnS g A B k).2 = 1 := by
 unfold dnN
 by_cases h0 : B <= A
 · refine ⟨0, ?_, ?_, by omega⟩
  · show (if A < B then 1 else 0) = 0
   rw [if_neg (by omega)]
  · show (2 ^ 256 + A - B) % 2 ^ 256 = _
   rw [if_pos h0]; omega
 · rw [if_neg h0]
  have b0 : (dnS g A B 0).2 = 1 := by show (if A < B then 1 else 0) = 1; rw [if_pos (by omega)]
  have m0 : (2 ^ 256 + A - B) % 2 ^ 256 = 2 ^ 256 + A - B := Nat.mod_eq_of_lt (by omega)
  by_cases h1 : g <= 2 ^ 256 + A - B
  · rw [if_pos h1]
   refine ⟨1, ?_, ?_, fun k hk => ?_⟩
   · show (if (2 ^ 256 + A - B) % 2 ^ 256 < g then 1 else 0) = 0
    rw [m0, if_neg (by omega)]
   · show (2 ^ 256 + (2 ^ 256 + A - B) % 2 ^ 256 - g) % 2 ^ 256 = _
    rw [m0]; omega
   · have : k = 0 := by omega
    subst this; exact b0
  · rw [if_neg h1]
   have m1 : (2 ^ 256 + (2 ^ 256 + A - B) % 2 ^ 256 - g) % 2 ^ 256 = 2 ^ 256 + (2 ^ 256 + A - B) - g := by rw [m0]; exact Nat.mod_eq_of_lt (by omega)
   refine ⟨2, ?_, ?_, fun k hk => ?_⟩
   · show (if (2 ^ 256 + (2 ^ 256 + A - B) % 2 ^ 256 - g) % 2 ^ 256 < g then 1 else 0) = 0
    rw [m1, if_neg (by omega)]
   · show (2 ^ 256 + (2 ^ 256 + (2 ^ 256 + A - B) % 2 ^ 256 - g) % 2 ^ 256 - g) % 2 ^ 256 = _
    rw [m1]; omega
   · have : k = 0 ∨ k = 1 := by omega
    rcases this with rfl | rfl
    · exact b0
    · show (if (2 ^ 256 + A - B) % 2 ^ 256 < g then 1 else 0) = 1
     rw [m0, if_pos (by omega)]
theorem dn_lt {g A B : Nat} (hg : g < 2 ^ 129) (hA : A < 2 ^ 256) (hB : B < 2 ^ 256) : dnN g A B < 2 ^ 256 := by
 unfold dnN; split
 · omega
 · split <;> omega
theorem dn_mod {p g A B : Nat} (hp : p + g = 2 ^ 256) (hg : g < 2 ^ 129) (hA : A < 2 ^ 256) (hB : B < 2 ^ 256) : dnN g A B % p = (A + (p - B % p)) % p := by
 have hp0 : 0 < p := by omega
 have e : (dnN g A B + B) % p = ((A + (p - B % p)) % p + B) % p := by
  rw [sub_add_mod hp0]
  unfold dnN; split
  · rw [show A - B + B = A from by omega]
  · split
   · rw [show 2 ^ 256 + A - B - g + B = A + p from by omega, Nat.add_mod_right]
   · rw [show 2 ^ 256 + (2 ^ 256 + A - B) - g - g + B = A + p + p from by omega, Nat.add_mod_right, Nat.add_mod_right]
 have := add_cancel_mod hp0 e
 rw [this, Nat.mod_mod]
def dnR {α : Type} (t g : Value) (c : Nat) (k : Nat -> Nat -> Option α) (out : Option α) : Option α :=
 bif ((c : Nat) : Int) == 1 then (r2 t g <| k (2 ^ 256 + unnum t - unnum g) (if unnum t < unnum g then 1 else 0)) else out
theorem dnR_eq {α : Type} {T g c : Nat} (hg : g < 2 ^ 129) (hc : c = 1) (k : Nat -> Nat -> Option α) (out : Option α) : dnR (num T) (num g) c k out = k (2 ^ 256 + T % 2 ^ 256 - g) (if T % 2 ^ 256 < g then 1 else 0) := by
 unfold dnR
 rw [r2_num, unnum_num, unnum_lt (show g < 2 ^ 256 by omega), hc]; rfl
def fdGo (s : Nat) : Nat -> Nat -> Nat -> Nat
 | 0, lo, _ => lo
 | k + 1, lo, hi => if hi = 0 then lo else fdGo s k (fdL s lo hi) (fdH s lo hi)
theorem fdK_shift (s lo hi : Nat) : ∀ n, fdK s lo hi (n + 1) = fdK s (fdL s lo hi) (fdH s lo hi) n
 | 0 => rfl
 | n + 1 => by
  show (fdL s (fdK s lo hi (n + 1)).1 (fdK s lo hi (n + 1)).2, fdH s (fdK s lo hi (n + 1)).1 (fdK s lo hi (n + 1)).2) = _
  rw [fdK_shift s lo hi n]; rfl
theorem fdGo_eq {s : Nat} : ∀ (k : Nat) {lo hi n : Nat}, n <= k -> (fdK s lo hi n).2 = 0 -> (∀ j, j < n -> (fdK s lo hi j).2 ≠ 0) -> fdGo s k lo hi = (fdK s lo hi n).1
 | 0, lo, hi, n, hn, _, _ => by
  have : n = 0 := by omega
  subst this; rfl
 | k + 1, lo, hi, 0, _, h0, _ => by
  have : hi = 0 := h0
  show (if hi = 0 then lo else _) = lo
  rw [if_pos this]
 | k + 1, lo, hi, n + 1, hn, h0, h1 => by
  have hne : hi ≠ 0 := h1 0 (by omega)
  show (if hi = 0 then lo else _) = _
  rw [if_neg hne, fdK_shift]
  refine fdGo_eq k (by omega) (by rw [<- fdK_shift]; exact h0) fun j hj => ?_
  rw [<- fdK_shift]; exact h1 (j + 1) (by omega)
theorem fdGo_at {lo hi n : Nat} (hlo : lo < 2 ^ 256) (hhi : hi < 2 ^ 256) (hn : (fdK sN lo hi n).2 = 0) (hne : ∀ j, j < n -> (fdK sN lo hi j).2 ≠ 0) : fdGo sN 4 lo hi = (fdK sN lo hi n).1 := by
 refine fdGo_eq 4 ?_ hn hne
 have hs : sN < 2 ^ 129 := by decide
 rcases Nat.lt_or_ge 4 n with h | h
 · exact absurd (fdK_end hlo hhi hs) (hne 4 h)
 · exact h
theorem fdGo_mod {lo hi : Nat} (hlo : lo < 2 ^ 256) (hhi : hi < 2 ^ 256) : fdGo sN 4 lo hi < 2 ^ 256 ∧ fdGo sN 4 lo hi % pN = (hi * 2 ^ 256 + lo) % pN := by
 have hs : sN < 2 ^ 129 := by decide
 obtain ⟨n, hn, hne⟩ := fdK_first hlo hhi hs
 rw [fdGo_at hlo hhi hn hne]
 refine ⟨(fdK_lt hlo hhi hs n).1, ?_⟩
 have := fdK_mod (lo := lo) (hi := hi) (p := pN) (s := sN) (by decide) n
 rw [hn, Nat.zero_mul, Nat.zero_add] at this
 exact this
def FoldNF : List Value -> Option (Bool × Value)
 | [lo, hi] => some (isNum lo && isNum hi, num (fdGo sN 4 (unnum lo) (unnum hi)))
 | _ => none
def fpZ (lo hi : Nat) : Nat := lo + hi * sP
def fpN (lo hi : Nat) : Nat := upN sP (fpZ lo hi % 2 ^ 256 + fpZ lo hi / 2 ^ 256 * sP)
def FoldPF : List Value -> Option (Bool × Value)
 | [lo, hi] => some (isNum lo && isNum hi, num (fpN (unnum lo) (unnum hi)))
 | _ => none
def q64 {α : Type} (x y : Value) (k : Option α) : Option α := req (isU64 x && isU64 y) k
noncomputable def fpT2 (v : Value) (t : Int) : Option Value :=
 q64 (.int .u64 t) (u64 4294968273) <| req (okW 0 && isNum v && isNum (.agg #[u64 (hideN (t.toNat * 4294968273) % 18446744073709551616), u64 (hideN (t.toNat * 4294968273) / 18446744073709551616), u64 0, u64 0])) <|
  some (num (upN (gapN 0) (unnum v + unnum (.agg #[u64 (hideN (t.toNat * 4294968273) % 18446744073709551616), u64 (hideN (t.toNat * 4294968273) / 18446744073709551616), u64 0, u64 0]))))
noncomputable def fpE (lo d e : Value) (c : Nat) : Option Value :=
 r2 lo d <| r2 (aS lo d) e <| fpT2 (aS (aS lo d) e) (iAdd .u64 (iAdd .u64 ((c : Nat) : Int) ((aC lo d : Nat) : Int)) ((aC (aS lo d) e : Nat) : Int))
noncomputable def fpT (lo : Value) (h0 h1 h2 h3 : Nat) : Option Value :=
 q64 (u64 h0) (u64 4294968273) <| q64 (u64 h1) (u64 4294968273) <| q64 (u64 h2) (u64 4294968273) <| q64 (u64 h3) (u64 4294968273) <|
 fpE lo (numd (hideN (h0 * 4294968273) % 18446744073709551616) (hideN (h1 * 4294968273) % 18446744073709551616) (hideN (h2 * 4294968273) % 18446744073709551616) (hideN (h3 * 4294968273) % 18446744073709551616))
  (numd 0 (hideN (h0 * 4294968273) / 18446744073709551616) (hideN (h1 * 4294968273) / 18446744073709551616) (hideN (h2 * 4294968273) / 18446744073709551616)) (hideN (h3 * 4294968273) / 18446744073709551616)
theorem q64_u {α : Type} {x y : Nat} (hx : x < 18446744073709551616) (hy : y < 18446744073709551616) (k : Option α) : q64 (u64 x) (u64 y) k = k := by
 unfold q64; rw [isU64_u64 hx, isU64_u64 hy, req_true (b := true && true) rfl]
theorem numd_hor {a b c d : Nat} (ha : a < 18446744073709551616) (hb : b < 18446744073709551616) (hc : c < 18446744073709551616) (hd : d < 18446744073709551616) : numd a b c d = num (hor a b c d) := by
 have := num_hor ha hb hc hd 0
 rw [Nat.mul_zero, Nat.add_zero] at this
 exact this.symm
theorem fpT2_eq {V t : Nat} (ht : t <= 4294968280) : fpT2 (num V) (t : Int) = some (num (upN sP (V % 2 ^ 256 + t * sP))) := by
 unfold fpT2
 simp only [hideN_eq]
 rw [show (Value.int .u64 (t : Int)) = u64 t from rfl, q64_u (by omega) (by omega), Int.toNat_natCast]
 have e : (Value.agg #[u64 (t * 4294968273 % 18446744073709551616), u64 (t * 4294968273 / 18446744073709551616), u64 0, u64 0]) = num (t * 4294968273) := by
  show numd _ _ _ _ = _
  rw [numd_hor (Nat.mod_lt _ (by decide)) (by omega) (by omega) (by omega)]
  congr 1; unfold hor; omega
 rw [e, isNum_num, isNum_num, req_true (b := okW 0 && true && true) rfl, unnum_num, unnum_lt (by omega)]
 rfl
theorem dvP {h : Nat} (l : h < 18446744073709551616) : h * 4294968273 / 18446744073709551616 < 4294968274 := by omega
theorem dvP' {h : Nat} (l : h < 18446744073709551616) : h * 4294968273 / 18446744073709551616 < 18446744073709551616 := Nat.lt_trans (dvP l) (by decide)
theorem fpE_eq {L D E c : Nat} (hL : L < 2 ^ 256) (hD : D < 2 ^ 256) (hE : E < 2 ^ 256) (hc : c < 4294968274) : fpE (num L) (num D) (num E) c =
  some (num (upN sP ((L + D + E + 2 ^ 256 * c) % 2 ^ 256 + (L + D + E + 2 ^ 256 * c) / 2 ^ 256 * sP))) := by
 unfold fpE
 rw [aS_num, aS_num, r2_num, r2_num, aC_num, aC_num, Nat.mod_eq_of_lt hL, Nat.mod_eq_of_lt hD, Nat.mod_eq_of_lt hE, iAdd_u, iAdd_u]
 have e1 : (c + (L + D) / 2 ^ 256) % 18446744073709551616 = c + (L + D) / 2 ^ 256 := Nat.mod_eq_of_lt (by omega)
 have e2 : (c + (L + D) / 2 ^ 256 + ((L + D) % 2 ^ 256 + E) / 2 ^ 256) % 18446744073709551616 = c + (L + D) / 2 ^ 256 + ((L + D) % 2 ^ 256 + E) / 2 ^ 256 := Nat.mod_eq_of_lt (by omega)
 rw [e1, e2, fpT2_eq (by omega)]
 have e3 : (L + D + E + 2 ^ 256 * c) % 2 ^ 256 = (L + D + E) % 2 ^ 256 := by omega
 have e4 : (L + D + E + 2 ^ 256 * c) / 2 ^ 256 = c + (L + D) / 2 ^ 256 + ((L + D) % 2 ^ 256 + E) / 2 ^ 256 := by omega
 rw [e3, e4]
theorem fpZ_hor (L h0 h1 h2 h3 : Nat) : fpZ L (hor h0 h1 h2 h3) = L + hor (h0 * 4294968273 % 18446744073709551616) (h1 * 4294968273 % 18446744073709551616) (h2 * 4294968273 % 18446744073709551616) (h3 * 4294968273 % 18446744073709551616)
   + hor 0 (h0 * 4294968273 / 18446744073709551616) (h1 * 4294968273 / 18446744073709551616) (h2 * 4294968273 / 18446744073709551616) + 2 ^ 256 * (h3 * 4294968273 / 18446744073709551616) := by
 unfold fpZ sP hor; omega
theorem fpT_eq {L h0 h1 h2 h3 : Nat} (hL : L < 2 ^ 256) (l0 : h0 < 18446744073709551616) (l1 : h1 < 18446744073709551616) (l2 : h2 < 18446744073709551616) (l3 : h3 < 18446744073709551616) :
  fpT (num L) h0 h1 h2 h3 = some (num (fpN L (hor h0 h1 h2 h3))) := by
 unfold fpT fpN
 simp only [hideN_eq]
 have g : (4294968273 : Nat) < 18446744073709551616 := by decide
 have m : ∀ x, x % 18446744073709551616 < 18446744073709551616 := fun x => Nat.mod_lt _ (by decide)
 rw [q64_u l0 g, q64_u l1 g, q64_u l2 g, q64_u l3 g, fpZ_hor]
 rw [numd_hor (m _) (m _) (m _) (m _), numd_hor (a := 0) (by decide) (dvP' l0) (dvP' l1) (dvP' l2)]
 exact fpE_eq hL (hor_lt (m _) (m _) (m _) (m _)) (hor_lt (by decide) (dvP' l0) (dvP' l1) (dvP' l2)) (dvP l3)
theorem fp_mod {lo hi : Nat} (hlo : lo < 2 ^ 256) (hhi : hi < 2 ^ 256) : fpN lo hi < 2 ^ 256 ∧ fpN lo hi % pP = (hi * 2 ^ 256 + lo) % pP := by
 have hp : pP + sP = 2 ^ 256 := by decide
 have hs : sP < 2 ^ 129 := by decide
 have hz : fpZ lo hi / 2 ^ 256 <= 4294968273 := by unfold fpZ sP; omega
 have hT : fpZ lo hi % 2 ^ 256 + fpZ lo hi / 2 ^ 256 * sP < 2 ^ 256 + 2 ^ 256 := by unfold sP; omega
 obtain ⟨_, _, h3, _⟩ := up_first hs hT
 refine ⟨h3, ?_⟩
 unfold fpN
 rw [up_mod hp hs hT]
 have key : ∀ (h l : Nat), (l + h * sP) % pP = (h * 2 ^ 256 + l) % pP := by
  intro h l
  rw [<- hp, Nat.mul_add, Nat.add_assoc, Nat.add_comm (h * pP), Nat.add_mul_mod_self_right, Nat.add_comm]
 rw [key]
 rw [show fpZ lo hi / 2 ^ 256 * 2 ^ 256 + fpZ lo hi % 2 ^ 256 = fpZ lo hi from by omega]
 exact key hi lo
end Go.W

namespace Go.W
structure Ops (A : Type) where
 zero : A
 one : A
 add : A -> A -> A
 sub : A -> A -> A
 mul : A -> A -> A
structure ORel {A B : Type} (o : Ops A) (o' : Ops B) (R : A -> B -> Prop) : Prop where
 zero : R o.zero o'.zero
 one : R o.one o'.one
 add : ∀ a b a' b', R a a' -> R b b' -> R (o.add a b) (o'.add a' b')
 sub : ∀ a b a' b', R a a' -> R b b' -> R (o.sub a b) (o'.sub a' b')
 mul : ∀ a b a' b', R a a' -> R b b' -> R (o.mul a b) (o'.mul a' b')
inductive PE where
 | v (i : Nat)
 | one
 | add (a b : PE)
 | sub (a b : PE)
 | mul (a b : PE)
def PE.ev {A : Type} (o : Ops A) (env : Nat -> A) : PE -> A
 | .v i => env i
 | .one => o.one
 | .add a b => o.add (a.ev o env) (b.ev o env)
 | .sub a b => o.sub (a.ev o env) (b.ev o env)
 | .mul a b => o.mul (a.ev o env) (b.ev o env)
theorem PE.rel {A B : Type} {o : Ops A} {o' : Ops B} {R : A -> B -> Prop} (h : ORel o o' R) {env : Nat -> A} {env' : Nat -> B} (he : ∀ i, R (env i) (env' i)) : ∀ e : PE, R (e.ev o env) (e.ev o' env')
 | .v i => he i
 | .one => h.one
 | .add a b => h.add _ _ _ _ (PE.rel h he a) (PE.rel h he b)
 | .sub a b => h.sub _ _ _ _ (PE.rel h he a) (PE.rel h he b)
 | .mul a b => h.mul _ _ _ _ (PE.rel h he a) (PE.rel h he b)
section
variable {A : Type} (o : Ops A)
def addL : List A -> List A -> List A
 | [], m => m
 | a :: l, [] => a :: l
 | a :: l, b :: m => o.add a b :: addL l m
def subL : List A -> List A -> List A
 | [], m => m.map (o.sub o.zero)
 | a :: l, [] => a :: l
 | a :: l, b :: m => o.sub a b :: subL l m
def mulL : List A -> List A -> List A
 | [], _ => []
 | a :: l, m => addL o (m.map (o.mul a)) (o.zero :: mulL l m)
def lOps : Ops (List A) := ⟨[], [o.one], addL o, subL o, mulL o⟩
def yOps (r : A) : Ops (A × A) :=
 ⟨(o.zero, o.zero), (o.one, o.zero), fun u v => (o.add u.1 v.1, o.add u.2 v.2), fun u v => (o.sub u.1 v.1, o.sub u.2 v.2),
  fun u v => (o.add (o.mul u.1 v.1) (o.mul (o.mul u.2 v.2) r), o.add (o.mul u.1 v.2) (o.mul u.2 v.1))⟩
end
structure RgOk {K : Type} (k : Ops K) : Prop where
 r1 : ∀ b, k.add k.zero b = b
 r2 : ∀ a, k.add a k.zero = a
 r3 : ∀ a b l m t, k.add (k.add a b) (k.mul t (k.add l m)) = k.add (k.add a (k.mul t l)) (k.add b (k.mul t m))
 r4 : k.sub k.zero k.zero = k.zero
 r5 : ∀ a l t, k.add (k.sub k.zero a) (k.mul t (k.sub k.zero l)) = k.sub k.zero (k.add a (k.mul t l))
 r6 : ∀ a, k.sub a k.zero = a
 r7 : ∀ a b l m t, k.add (k.sub a b) (k.mul t (k.sub l m)) = k.sub (k.add a (k.mul t l)) (k.add b (k.mul t m))
 r8 : ∀ a, k.mul a k.zero = k.zero
 r9 : ∀ a b l t, k.add (k.mul a b) (k.mul t (k.mul a l)) = k.mul a (k.add b (k.mul t l))
 r10 : ∀ m, k.mul k.zero m = k.zero
 r11 : ∀ a l m t, k.add (k.mul a m) (k.add k.zero (k.mul t (k.mul l m))) = k.mul (k.add a (k.mul t l)) m
 r14 : ∀ a b c d y, k.add (k.add a c) (k.mul (k.add b d) y) = k.add (k.add a (k.mul b y)) (k.add c (k.mul d y))
 r15 : ∀ a b c d y, k.add (k.sub a c) (k.mul (k.sub b d) y) = k.sub (k.add a (k.mul b y)) (k.add c (k.mul d y))
 r16 : ∀ a b c d y, k.add (k.add (k.mul a c) (k.mul (k.mul b d) (k.mul y y))) (k.mul (k.add (k.mul a d) (k.mul b c)) y) = k.mul (k.add a (k.mul b y)) (k.add c (k.mul d y))
section
variable {A K : Type} {k : Ops K} {o : Ops A} {φ : A -> K} {t : K}
def evL (k : Ops K) (φ : A -> K) (t : K) : List A -> K
 | [] => k.zero
 | a :: l => k.add (φ a) (k.mul t (evL k φ t l))
abbrev Hom (k : Ops K) (o : Ops A) (φ : A -> K) : Prop := ORel o k (fun a x => φ a = x)
theorem Hom.z (h : Hom k o φ) : φ o.zero = k.zero := h.zero
theorem Hom.a (h : Hom k o φ) (a b : A) : φ (o.add a b) = k.add (φ a) (φ b) := h.add _ _ _ _ rfl rfl
theorem Hom.s (h : Hom k o φ) (a b : A) : φ (o.sub a b) = k.sub (φ a) (φ b) := h.sub _ _ _ _ rfl rfl
theorem Hom.m (h : Hom k o φ) (a b : A) : φ (o.mul a b) = k.mul (φ a) (φ b) := h.mul _ _ _ _ rfl rfl
theorem evL_add (hk : RgOk k) (h : Hom k o φ) : ∀ l m : List A, evL k φ t (addL o l m) = k.add (evL k φ t l) (evL k φ t m)
 | [], m => by simp only [addL, evL, hk.r1]
 | a :: l, [] => by simp only [addL, evL, hk.r2]
 | a :: l, b :: m => by simp only [addL, evL, h.a, evL_add hk h l m, hk.r3]
theorem evL_neg (hk : RgOk k) (h : Hom k o φ) : ∀ m : List A, evL k φ t (m.map (o.sub o.zero)) = k.sub k.zero (evL k φ t m)
 | [] => by simp only [List.map_nil, evL, hk.r4]
 | a :: l => by simp only [List.map_cons, evL, h.s, h.z, evL_neg hk h l, hk.r5]
theorem evL_sub (hk : RgOk k) (h : Hom k o φ) : ∀ l m : List A, evL k φ t (subL o l m) = k.sub (evL k φ t l) (evL k φ t m)
 | [], m => by simp only [subL, evL_neg hk h, evL]
 | a :: l, [] => by simp only [subL, evL, hk.r6]
 | a :: l, b :: m => by simp only [subL, evL, h.s, evL_sub hk h l m, hk.r7]
theorem evL_scale (hk : RgOk k) (h : Hom k o φ) (a : A) : ∀ m : List A, evL k φ t (m.map (o.mul a)) = k.mul (φ a) (evL k φ t m)
 | [] => by simp only [List.map_nil, evL, hk.r8]
 | b :: l => by simp only [List.map_cons, evL, h.m, evL_scale hk h a l, hk.r9]
theorem evL_mul (hk : RgOk k) (h : Hom k o φ) : ∀ l m : List A, evL k φ t (mulL o l m) = k.mul (evL k φ t l) (evL k φ t m)
 | [], m => by simp only [mulL, evL, hk.r10]
 | a :: l, m => by simp only [mulL, evL, evL_add hk h, evL_scale hk h, h.z, evL_mul hk h l m, hk.r11]
theorem hom_lOps (hk : RgOk k) (h : Hom k o φ) : Hom k (lOps o) (evL k φ t) where
 zero := rfl
 one := by show k.add (φ o.one) (k.mul t k.zero) = k.one; rw [show φ o.one = k.one from h.one, hk.r8, hk.r2]
 add := by rintro a b _ _ rfl rfl; exact evL_add hk h a b
 sub := by rintro a b _ _ rfl rfl; exact evL_sub hk h a b
 mul := by rintro a b _ _ rfl rfl; exact evL_mul hk h a b
theorem hom_yOps (hk : RgOk k) (h : Hom k o φ) {r : A} {y : K} (hy : k.mul y y = φ r) : Hom k (yOps o r) (fun q => k.add (φ q.1) (k.mul (φ q.2) y)) where
 zero := by show k.add (φ o.zero) (k.mul (φ o.zero) y) = k.zero; rw [h.z, hk.r10, hk.r2]
 one := by show k.add (φ o.one) (k.mul (φ o.zero) y) = k.one; rw [h.z, show φ o.one = k.one from h.one, hk.r10, hk.r2]
 add := by rintro a b _ _ rfl rfl; simp only [yOps, h.a, hk.r14]
 sub := by rintro a b _ _ rfl rfl; simp only [yOps, h.s, hk.r15]
 mul := by rintro a b _ _ rfl rfl; simp only [yOps, h.a, h.m, <- hy, hk.r16]
end
section
variable {A : Type} {o : Ops A} {ν : A -> Nat} {w : Nat}
structure Nrm (o : Ops A) (ν : A -> Nat) : Prop where
 zero : ν o.zero = 0
 one : ν o.one <= 1
 add : ∀ a b, ν (o.add a b) <= ν a + ν b
 sub : ∀ a b, ν (o.sub a b) <= ν a + ν b
 mul : ∀ a b, ν (o.mul a b) <= ν a * ν b
def nL (ν : A -> Nat) (w : Nat) : List A -> Nat
 | [] => 0
 | a :: l => ν a + w * nL ν w l
theorem nL_add (h : Nrm o ν) : ∀ l m : List A, nL ν w (addL o l m) <= nL ν w l + nL ν w m
 | [], m => by simp only [addL, nL]; omega
 | a :: l, [] => by simp only [addL, nL]; omega
 | a :: l, b :: m => by
  have h1 := h.add a b
  have h2 := Nat.mul_le_mul_left w (nL_add h l m)
  rw [Nat.mul_add] at h2
  simp only [addL, nL]; omega
theorem nL_neg (h : Nrm o ν) : ∀ m : List A, nL ν w (m.map (o.sub o.zero)) <= nL ν w m
 | [] => by simp [nL]
 | a :: l => by
  have h1 := h.sub o.zero a
  rw [h.zero] at h1
  have h2 := Nat.mul_le_mul_left w (nL_neg h l)
  simp only [List.map_cons, nL]; omega
theorem nL_sub (h : Nrm o ν) : ∀ l m : List A, nL ν w (subL o l m) <= nL ν w l + nL ν w m
 | [], m => by simp only [subL, nL, Nat.zero_add]; exact nL_neg h m
 | a :: l, [] => by simp only [subL, nL]; omega
 | a :: l, b :: m => by
  have h1 := h.sub a b
  have h2 := Nat.mul_le_mul_left w (nL_sub h l m)
  rw [Nat.mul_add] at h2
  simp only [subL, nL]; omega
theorem nL_scale (h : Nrm o ν) (a : A) : ∀ m : List A, nL ν w (m.map (o.mul a)) <= ν a * nL ν w m
 | [] => by simp [nL]
 | b :: l => by
  have h1 := h.mul a b
  have h2 := Nat.mul_le_mul_left w (nL_scale h a l)
  simp only [List.map_cons, nL, Nat.mul_add]
  rw [Nat.mul_left_comm w] at h2
  omega
theorem nL_mul (h : Nrm o ν) : ∀ l m : List A, nL ν w (mulL o l m) <= nL ν w l * nL ν w m
 | [], m => by simp [mulL, nL]
 | a :: l, m => by
  have h1 := nL_add (w := w) h (m.map (o.mul a)) (o.zero :: mulL o l m)
  have h2 := nL_scale (w := w) h a m
  have h3 := Nat.mul_le_mul_left w (nL_mul h l m)
  simp only [nL, h.zero, Nat.zero_add] at h1
  simp only [mulL, nL, Nat.add_mul, Nat.mul_assoc]
  omega
theorem nrm_lOps (h : Nrm o ν) : Nrm (lOps o) (nL ν w) where
 zero := rfl
 one := by show ν o.one + w * 0 <= 1; have := h.one; omega
 add := nL_add h
 sub := nL_sub h
 mul := nL_mul h
def aOps : Ops Nat := ⟨0, 1, (· + ·), (· + ·), (· * ·)⟩
theorem nrm_rel (h : Nrm o ν) : ORel o aOps (fun a n => ν a <= n) where
 zero := by show ν o.zero <= 0; rw [h.zero]; exact Nat.le_refl _
 one := h.one
 add := fun a b a' b' h1 h2 => Nat.le_trans (h.add a b) (Nat.add_le_add h1 h2)
 sub := fun a b a' b' h1 h2 => Nat.le_trans (h.sub a b) (Nat.add_le_add h1 h2)
 mul := fun a b a' b' h1 h2 => Nat.le_trans (h.mul a b) (Nat.mul_le_mul h1 h2)
theorem rel_yOps {B : Type} {o' : Ops B} {R : A -> B -> Prop} (h : ORel o o' R) {r : A} {r' : B} (hr : R r r') : ORel (yOps o r) (yOps o' r') (fun q q' => R q.1 q'.1 ∧ R q.2 q'.2) where
 zero := ⟨h.zero, h.zero⟩
 one := ⟨h.one, h.zero⟩
 add := fun _ _ _ _ h1 h2 => ⟨h.add _ _ _ _ h1.1 h2.1, h.add _ _ _ _ h1.2 h2.2⟩
 sub := fun _ _ _ _ h1 h2 => ⟨h.sub _ _ _ _ h1.1 h2.1, h.sub _ _ _ _ h1.2 h2.2⟩
 mul := fun _ _ _ _ h1 h2 => ⟨h.add _ _ _ _ (h.mul _ _ _ _ h1.1 h2.1) (h.mul _ _ _ _ (h.mul _ _ _ _ h1.2 h2.2) hr), h.add _ _ _ _ (h.mul _ _ _ _ h1.1 h2.2) (h.mul _ _ _ _ h1.2 h2.1)⟩
end
end Go.W

namespace Go.W
def oI : Ops Int := ⟨0, 1, (· + ·), (· - ·), (· * ·)⟩
theorem rgI : RgOk oI := by
 constructor <;> simp only [oI] <;> (intros; grind)
def oF (P0 : Nat) [NeZero P0] : Ops (Fin P0) := ⟨0, 1, (· + ·), (· - ·), (· * ·)⟩
theorem rgF (P0 : Nat) [NeZero P0] : RgOk (oF P0) := by
 constructor <;> simp only [oF] <;> (intros; grind)
section
variable {A : Type} {φ : A -> Int} {ν : A -> Nat}
theorem nL_mem (ν : A -> Nat) : ∀ (l : List A) (a : A), a ∈ l -> ν a <= nL ν 1 l
 | b :: l, a, h => by
  rcases List.mem_cons.1 h with rfl | h
  · simp only [nL]; omega
  · have := nL_mem ν l a h
   simp only [nL]; omega
theorem natAbs_evL (h : ∀ a, (φ a).natAbs <= ν a) (N : Nat) : ∀ l : List A, (evL oI φ (N : Int) l).natAbs <= nL ν N l
 | [] => Nat.le_refl 0
 | a :: l => by
  have h1 := h a
  have h2 := Nat.mul_le_mul_left N (natAbs_evL h N l)
  have h3 := Int.natAbs_add_le (φ a) ((N : Int) * evL oI φ (N : Int) l)
  have h4 : ((N : Int) * evL oI φ (N : Int) l).natAbs = N * (evL oI φ (N : Int) l).natAbs := by rw [Int.natAbs_mul, Int.natAbs_natCast]
  show (φ a + (N : Int) * evL oI φ (N : Int) l).natAbs <= ν a + N * nL ν N l
  omega
theorem stepZ (h : ∀ a, (φ a).natAbs <= ν a) {N : Nat} : ∀ (l : List A), nL ν 1 l < N -> evL oI φ (N : Int) l = 0 -> ∀ a ∈ l, φ a = 0
 | [], _, _, a, ha => by simp at ha
 | b :: l, hn, hz, a, ha => by
  simp only [nL, Nat.one_mul] at hn
  replace hz : φ b + (N : Int) * evL oI φ (N : Int) l = 0 := hz
  have h1 := h b
  have hb : φ b = 0 := by
   have hd : (N : Int) ∣ φ b := ⟨-(evL oI φ (N : Int) l), by rw [Int.mul_neg]; omega⟩
   refine Int.eq_zero_of_dvd_of_natAbs_lt_natAbs hd ?_
   rw [Int.natAbs_natCast]; omega
  rw [hb, Int.zero_add] at hz
  have hl : evL oI φ (N : Int) l = 0 := by
   rcases Int.mul_eq_zero.1 hz with h | h
   · omega
   · exact h
  rcases List.mem_cons.1 ha with rfl | ha
  · exact hb
  · exact stepZ h l (by omega) hl a ha
theorem evL_zero {K : Type} {k : Ops K} (hk : RgOk k) {φ : A -> K} {t : K} : ∀ (l : List A), (∀ a ∈ l, φ a = k.zero) -> evL k φ t l = k.zero
 | [], _ => rfl
 | a :: l, h => by
  simp only [evL, h a (by simp), evL_zero hk l fun b hb => h b (by simp [hb]), hk.r8, hk.r2]
end
abbrev P1 := List Int
abbrev P2 := List P1
abbrev P3 := List P2
def o1 : Ops P1 := lOps oI
def o2 : Ops P2 := lOps o1
def o3 : Ops P3 := lOps o2
def X1 : P3 := [[[0, 1]]]
def X2 : P3 := [[[], [1]]]
def X3 : P3 := [[], [[1]]]
def idI (z : Int) : Int := z
theorem homI : Hom oI oI idI := ⟨rfl, rfl, by rintro _ _ _ _ rfl rfl; rfl, by rintro _ _ _ _ rfl rfl; rfl, by rintro _ _ _ _ rfl rfl; rfl⟩
theorem fin_ext {P0 : Nat} {a b : Fin P0} (h : (a.val : Int) = (b.val : Int)) : a = b := Fin.ext (by omega)
section
variable {P0 : Nat} [NeZero P0]
def castI (P0 : Nat) [NeZero P0] (z : Int) : Fin P0 := Fin.ofNat P0 (z % (P0 : Int)).toNat
theorem cast_val (z : Int) : ((castI P0 z).val : Int) = z % (P0 : Int) := by
 have hp : 0 < P0 := Nat.pos_of_ne_zero (NeZero.ne P0)
 have h1 : 0 <= z % (P0 : Int) := Int.emod_nonneg _ (by omega)
 have h2 : z % (P0 : Int) < P0 := Int.emod_lt_of_pos _ (by omega)
 show (((z % (P0 : Int)).toNat % P0 : Nat) : Int) = _
 rw [Nat.mod_eq_of_lt (by omega)]; omega
theorem cast0 : castI P0 0 = 0 := by
 apply fin_ext; rw [cast_val]
 show (0 : Int) % _ = (((0 : Nat) % P0 : Nat) : Int)
 rw [Nat.zero_mod, Int.zero_emod]; rfl
theorem cast1 : castI P0 1 = 1 := by
 apply fin_ext; rw [cast_val]
 show (1 : Int) % _ = (((1 : Nat) % P0 : Nat) : Int)
 rw [Int.natCast_emod]; rfl
theorem homK : Hom (oF P0) oI (castI P0) where
 zero := cast0
 one := cast1
 add := by
  rintro a b _ _ rfl rfl
  apply fin_ext
  show ((castI P0 (a + b)).val : Int) = ((((castI P0 a).val + (castI P0 b).val) % P0 : Nat) : Int)
  rw [cast_val, Int.natCast_emod, Int.natCast_add, cast_val, cast_val, <- Int.add_emod]
 sub := by
  rintro a b _ _ rfl rfl
  have key : castI P0 (a - b) + castI P0 b = castI P0 a := by
   apply fin_ext
   show ((((castI P0 (a - b)).val + (castI P0 b).val) % P0 : Nat) : Int) = _
   rw [Int.natCast_emod, Int.natCast_add, cast_val, cast_val, cast_val, <- Int.add_emod, Int.sub_add_cancel]
  show castI P0 (a - b) = castI P0 a - castI P0 b
  rw [<- key]; grind
 mul := by
  rintro a b _ _ rfl rfl
  apply fin_ext
  show ((castI P0 (a * b)).val : Int) = ((((castI P0 a).val * (castI P0 b).val) % P0 : Nat) : Int)
  rw [cast_val, Int.natCast_emod, Int.natCast_mul, cast_val, cast_val, <- Int.mul_emod]
end
theorem nrmI : Nrm oI Int.natAbs where
 zero := rfl
 one := by decide
 add := Int.natAbs_add_le
 sub := fun a b => by show (a - b).natAbs <= _; omega
 mul := fun a b => Nat.le_of_eq (Int.natAbs_mul a b)
def φ3 {K : Type} (k : Ops K) (f : Int -> K) (a b c : K) : P3 -> K := evL k (evL k (evL k f a) b) c
def ν3 (a b c : Nat) : P3 -> Nat := nL (nL (nL Int.natAbs a) b) c
theorem hom3 {K : Type} {k : Ops K} (hk : RgOk k) {f : Int -> K} (h : Hom k oI f) (a b c : K) : Hom k o3 (φ3 k f a b c) := hom_lOps hk (hom_lOps hk (hom_lOps hk h))
theorem nrm3 (a b c : Nat) : Nrm o3 (ν3 a b c) := nrm_lOps (nrm_lOps (nrm_lOps nrmI))
theorem zero3 {N1 N2 N3 M : Nat} {p : P3} (h0 : (M : Int) ∣ φ3 oI idI (N1 : Int) (N2 : Int) (N3 : Int) p) (hM : ν3 N1 N2 N3 p < M) (h3 : ν3 N1 N2 1 p < N3) (h2 : ν3 N1 1 1 p < N2) (h1 : ν3 1 1 1 p < N1)
  {P0 : Nat} [NeZero P0] (a b c : Fin P0) : φ3 (oF P0) (castI P0) a b c p = 0 := by
 have q0 : ∀ z : Int, (idI z).natAbs <= Int.natAbs z := fun z => Nat.le_refl _
 have q1 : ∀ l : P1, (evL oI idI (N1 : Int) l).natAbs <= nL Int.natAbs N1 l := natAbs_evL q0 N1
 have q2 : ∀ l : P2, (evL oI (evL oI idI (N1 : Int)) (N2 : Int) l).natAbs <= nL (nL Int.natAbs N1) N2 l := natAbs_evL q1 N2
 have q3 : (φ3 oI idI (N1 : Int) (N2 : Int) (N3 : Int) p).natAbs <= ν3 N1 N2 N3 p := natAbs_evL q2 N3 p
 have hz : φ3 oI idI (N1 : Int) (N2 : Int) (N3 : Int) p = 0 := Int.eq_zero_of_dvd_of_natAbs_lt_natAbs h0 (by rw [Int.natAbs_natCast]; omega)
 have z2 := stepZ q2 p h3 hz
 refine evL_zero (rgF P0) p fun q hq => ?_
 have n2 : nL (nL Int.natAbs N1) 1 q < N2 := Nat.lt_of_le_of_lt (nL_mem (nL (nL Int.natAbs N1) 1) p q hq) h2
 have z1 := stepZ q1 q n2 (z2 q hq)
 refine evL_zero (rgF P0) q fun s hs => ?_
 have n1 : nL Int.natAbs 1 s < N1 := Nat.lt_of_le_of_lt (nL_mem (nL Int.natAbs 1) q s hs) (Nat.lt_of_le_of_lt (nL_mem (nL (nL Int.natAbs 1) 1) p q hq) h1)
 have z0 := stepZ q0 s n1 (z1 s hs)
 refine evL_zero (rgF P0) s fun z hz => ?_
 have : z = 0 := z0 z hz
 rw [this]; exact cast0
abbrev T8 (A : Type) := ((A × A) × (A × A)) × ((A × A) × (A × A))
section
variable {A : Type} (o : Ops A)
def seven : A := o.add (o.add (o.add o.one o.one) (o.add o.one o.one)) (o.add (o.add o.one o.one) o.one)
def cub (x : A) : A := o.add (o.mul (o.mul x x) x) (seven o)
def tow (x1 x2 x3 : A) : Ops (T8 A) := yOps (yOps (yOps o (cub o x1)) (cub o x2, o.zero)) ((cub o x3, o.zero), (o.zero, o.zero))
def env8 (x1 x2 x3 : A) : Nat -> T8 A
 | 0 => (((x1, o.zero), (o.zero, o.zero)), ((o.zero, o.zero), (o.zero, o.zero)))
 | 1 => (((o.zero, o.one), (o.zero, o.zero)), ((o.zero, o.zero), (o.zero, o.zero)))
 | 2 => (((x2, o.zero), (o.zero, o.zero)), ((o.zero, o.zero), (o.zero, o.zero)))
 | 3 => (((o.zero, o.zero), (o.one, o.zero)), ((o.zero, o.zero), (o.zero, o.zero)))
 | 4 => (((x3, o.zero), (o.zero, o.zero)), ((o.zero, o.zero), (o.zero, o.zero)))
 | _ => (((o.zero, o.zero), (o.zero, o.zero)), ((o.one, o.zero), (o.zero, o.zero)))
end
def all8 {A B : Type} (R : A -> B -> Prop) (u : T8 A) (v : T8 B) : Prop :=
 ((R u.1.1.1 v.1.1.1 ∧ R u.1.1.2 v.1.1.2) ∧ (R u.1.2.1 v.1.2.1 ∧ R u.1.2.2 v.1.2.2)) ∧ ((R u.2.1.1 v.2.1.1 ∧ R u.2.1.2 v.2.1.2) ∧ (R u.2.2.1 v.2.2.1 ∧ R u.2.2.2 v.2.2.2))
section
variable {A B : Type} {o : Ops A} {o' : Ops B} {R : A -> B -> Prop}
theorem rel_seven (h : ORel o o' R) : R (seven o) (seven o') := by
 unfold seven
 have h2 := h.add _ _ _ _ h.one h.one
 exact h.add _ _ _ _ (h.add _ _ _ _ h2 h2) (h.add _ _ _ _ h2 h.one)
theorem rel_cub (h : ORel o o' R) {x : A} {x' : B} (hx : R x x') : R (cub o x) (cub o' x') := h.add _ _ _ _ (h.mul _ _ _ _ (h.mul _ _ _ _ hx hx) hx) (rel_seven h)
theorem rel_tow (h : ORel o o' R) {x1 x2 x3 : A} {y1 y2 y3 : B} (h1 : R x1 y1) (h2 : R x2 y2) (h3 : R x3 y3) : ORel (tow o x1 x2 x3) (tow o' y1 y2 y3) (all8 R) :=
 rel_yOps (rel_yOps (rel_yOps h (rel_cub h h1)) ⟨rel_cub h h2, h.zero⟩) ⟨⟨rel_cub h h3, h.zero⟩, ⟨h.zero, h.zero⟩⟩
theorem rel_env (h : ORel o o' R) {x1 x2 x3 : A} {y1 y2 y3 : B} (h1 : R x1 y1) (h2 : R x2 y2) (h3 : R x3 y3) (i : Nat) : all8 R (env8 o x1 x2 x3 i) (env8 o' y1 y2 y3 i) := by
 have z := h.zero
 have e := h.one
 match i with
 | 0 => exact ⟨⟨⟨h1, z⟩, z, z⟩, ⟨z, z⟩, z, z⟩
 | 1 => exact ⟨⟨⟨z, e⟩, z, z⟩, ⟨z, z⟩, z, z⟩
 | 2 => exact ⟨⟨⟨h2, z⟩, z, z⟩, ⟨z, z⟩, z, z⟩
 | 3 => exact ⟨⟨⟨z, z⟩, e, z⟩, ⟨z, z⟩, z, z⟩
 | 4 => exact ⟨⟨⟨h3, z⟩, z, z⟩, ⟨z, z⟩, z, z⟩
 | _ + 5 => exact ⟨⟨⟨z, z⟩, z, z⟩, ⟨e, z⟩, z, z⟩
end
def mOps (M : Nat) : Ops Nat := ⟨0, 1, fun a b => (a + b) % M, fun a b => (a + (M - b % M)) % M, fun a b => a * b % M⟩
def mdR (M : Nat) (f : P3 -> Int) (p : P3) (n : Nat) : Prop := (M : Int) ∣ f p - (n : Int)
theorem rel_mod {M : Nat} (hM : 0 < M) {f : P3 -> Int} (h : Hom oI o3 f) : ORel o3 (mOps M) (mdR M f) := by
 have red : ∀ (z : Int) (n : Nat), (M : Int) ∣ z - (n : Int) -> (M : Int) ∣ z - ((n % M : Nat) : Int) := by
  intro z n hz
  have e : (n : Int) = (M : Int) * ((n / M : Nat) : Int) + ((n % M : Nat) : Int) := by exact_mod_cast (Nat.div_add_mod n M).symm
  obtain ⟨k, hk⟩ := hz
  exact ⟨k + ((n / M : Nat) : Int), by rw [Int.mul_add]; omega⟩
 have Z0 : f o3.zero = 0 := h.z
 have Ad : ∀ a b, f (o3.add a b) = f a + f b := fun a b => h.a a b
 have Sb : ∀ a b, f (o3.sub a b) = f a - f b := fun a b => h.s a b
 have Mu : ∀ a b, f (o3.mul a b) = f a * f b := fun a b => h.m a b
 refine ⟨?_, ?_, ?_, ?_, ?_⟩
 · show (M : Int) ∣ f o3.zero - ((0 : Nat) : Int); rw [Z0]; exact ⟨0, by simp⟩
 · show (M : Int) ∣ f o3.one - ((1 : Nat) : Int); rw [show f o3.one = 1 from h.one]; exact ⟨0, by simp⟩
 · rintro a b m n ⟨k, hk⟩ ⟨l, hl⟩
  refine red _ _ ⟨k + l, ?_⟩
  rw [Ad, Int.mul_add]; omega
 · rintro a b m n ⟨k, hk⟩ ⟨l, hl⟩
  refine red _ _ ?_
  have hlt : n % M < M := Nat.mod_lt _ hM
  have e : (n : Int) = (M : Int) * ((n / M : Nat) : Int) + ((n % M : Nat) : Int) := by exact_mod_cast (Nat.div_add_mod n M).symm
  refine ⟨k - l - ((n / M : Nat) : Int) - 1, ?_⟩
  rw [Sb, Int.mul_sub, Int.mul_sub, Int.mul_sub]; omega
 · rintro a b m n ⟨k, hk⟩ ⟨l, hl⟩
  refine red _ _ ⟨k * f b + (m : Int) * l, ?_⟩
  rw [Mu]
  have e1 : f a = (m : Int) + (M : Int) * k := by omega
  have e2 : f b = (n : Int) + (M : Int) * l := by omega
  rw [e1, e2, Int.natCast_mul]
  grind
def frc {R : Type} (n : Nat) (k : Nat -> R) : R :=
 match n with
 | 0 => k 0
 | m + 1 => k (m + 1)
theorem frc_eq {R : Type} (n : Nat) (k : Nat -> R) : frc n k = k n := by cases n <;> rfl
def frc8 (u : T8 Nat) : T8 Nat :=
 frc u.1.1.1 fun a => frc u.1.1.2 fun b => frc u.1.2.1 fun c => frc u.1.2.2 fun d => frc u.2.1.1 fun e => frc u.2.1.2 fun f => frc u.2.2.1 fun g => frc u.2.2.2 fun h => (((a, b), (c, d)), ((e, f), (g, h)))
theorem frc8_eq (u : T8 Nat) : frc8 u = u := by simp only [frc8, frc_eq]
def fOps (o : Ops (T8 Nat)) : Ops (T8 Nat) := ⟨o.zero, o.one, fun u v => frc8 (o.add u v), fun u v => frc8 (o.sub u v), fun u v => frc8 (o.mul u v)⟩
theorem fOps_eq (o : Ops (T8 Nat)) : fOps o = o := by unfold fOps; simp only [frc8_eq]
def lt8 (N : Nat) (u : T8 Nat) : Bool := Nat.blt u.1.1.1 N && Nat.blt u.1.1.2 N && Nat.blt u.1.2.1 N && Nat.blt u.1.2.2 N && Nat.blt u.2.1.1 N && Nat.blt u.2.1.2 N && Nat.blt u.2.2.1 N && Nat.blt u.2.2.2 N
def absOk (a b c N : Nat) (e : PE) : Bool := lt8 N (e.ev (fOps (tow aOps a b c)) (env8 aOps a b c))
def modOk (a b c M : Nat) (e : PE) : Bool := lt8 1 (e.ev (fOps (tow (mOps M) a b c)) (env8 (mOps M) a b c))
def chkP (N1 N2 N3 M : Nat) (e : PE) : Bool := absOk 1 1 1 N1 e && absOk N1 1 1 N2 e && absOk N1 N2 1 N3 e && absOk N1 N2 N3 M e && modOk N1 N2 N3 M e
theorem lt8_iff {N : Nat} {u : T8 Nat} (h : lt8 N u = true) : ((u.1.1.1 < N ∧ u.1.1.2 < N) ∧ (u.1.2.1 < N ∧ u.1.2.2 < N)) ∧ ((u.2.1.1 < N ∧ u.2.1.2 < N) ∧ (u.2.2.1 < N ∧ u.2.2.2 < N)) := by
 simp only [lt8, Bool.and_eq_true, Nat.blt_eq] at h
 obtain ⟨⟨⟨⟨⟨⟨⟨h0, h1⟩, h2⟩, h3⟩, h4⟩, h5⟩, h6⟩, h7⟩ := h
 exact ⟨⟨⟨h0, h1⟩, h2, h3⟩, ⟨h4, h5⟩, h6, h7⟩
def PE.p8 (e : PE) : T8 P3 := e.ev (tow o3 X1 X2 X3) (env8 o3 X1 X2 X3)
theorem abs_le (a b c N : Nat) (e : PE) (h : absOk a b c N e = true) : all8 (fun (p : P3) (_ : Nat) => ν3 a b c p < N) e.p8 (((0, 0), (0, 0)), ((0, 0), (0, 0))) := by
 unfold absOk at h
 rw [fOps_eq] at h
 have hr := nrm_rel (nrm3 a b c)
 have x1 : ν3 a b c X1 <= a := by simp [ν3, X1, nL]
 have x2 : ν3 a b c X2 <= b := by simp [ν3, X2, nL]
 have x3 : ν3 a b c X3 <= c := by simp [ν3, X3, nL]
 have key := PE.rel (rel_tow hr x1 x2 x3) (rel_env hr x1 x2 x3) e
 obtain ⟨⟨⟨k0, k1⟩, k2, k3⟩, ⟨k4, k5⟩, k6, k7⟩ := key
 obtain ⟨⟨⟨l0, l1⟩, l2, l3⟩, ⟨l4, l5⟩, l6, l7⟩ := lt8_iff h
 exact ⟨⟨⟨Nat.lt_of_le_of_lt k0 l0, Nat.lt_of_le_of_lt k1 l1⟩, Nat.lt_of_le_of_lt k2 l2, Nat.lt_of_le_of_lt k3 l3⟩, ⟨Nat.lt_of_le_of_lt k4 l4, Nat.lt_of_le_of_lt k5 l5⟩, Nat.lt_of_le_of_lt k6 l6, Nat.lt_of_le_of_lt k7 l7⟩
theorem mod_zero (a b c M : Nat) (hM : 0 < M) (e : PE) (h : modOk a b c M e = true) : all8 (fun (p : P3) (_ : Nat) => (M : Int) ∣ φ3 oI idI (a : Int) (b : Int) (c : Int) p) e.p8 (((0, 0), (0, 0)), ((0, 0), (0, 0))) := by
 unfold modOk at h
 rw [fOps_eq] at h
 have hr := rel_mod hM (hom3 rgI homI (a : Int) (b : Int) (c : Int))
 have x1 : mdR M (φ3 oI idI (a : Int) (b : Int) (c : Int)) X1 a := ⟨0, by simp [φ3, X1, evL, idI, oI]⟩
 have x2 : mdR M (φ3 oI idI (a : Int) (b : Int) (c : Int)) X2 b := ⟨0, by simp [φ3, X2, evL, idI, oI]⟩
 have x3 : mdR M (φ3 oI idI (a : Int) (b : Int) (c : Int)) X3 c := ⟨0, by simp [φ3, X3, evL, idI, oI]⟩
 have key := PE.rel (rel_tow hr x1 x2 x3) (rel_env hr x1 x2 x3) e
 have z : ∀ (p : P3) (n : Nat), mdR M (φ3 oI idI (a : Int) (b : Int) (c : Int)) p n -> n < 1 -> (M : Int) ∣ φ3 oI idI (a : Int) (b : Int) (c : Int) p := by
  intro p n hp hn
  have : n = 0 := by omega
  subst this
  obtain ⟨k, hk⟩ := hp
  exact ⟨k, by omega⟩
 obtain ⟨⟨⟨k0, k1⟩, k2, k3⟩, ⟨k4, k5⟩, k6, k7⟩ := key
 obtain ⟨⟨⟨l0, l1⟩, l2, l3⟩, ⟨l4, l5⟩, l6, l7⟩ := lt8_iff h
 exact ⟨⟨⟨z _ _ k0 l0, z _ _ k1 l1⟩, z _ _ k2 l2, z _ _ k3 l3⟩, ⟨z _ _ k4 l4, z _ _ k5 l5⟩, z _ _ k6 l6, z _ _ k7 l7⟩
section
variable {P0 : Nat} [NeZero P0]
def envK (x1 y1 x2 y2 x3 y3 : Fin P0) : Nat -> Fin P0
 | 0 => x1
 | 1 => y1
 | 2 => x2
 | 3 => y2
 | 4 => x3
 | _ => y3
theorem e8a (a y1 y2 y3 : Fin P0) : ((a + 0 * y1) + (0 + 0 * y1) * y2) + ((0 + 0 * y1) + (0 + 0 * y1) * y2) * y3 = a := by grind
theorem e8b (y1 y2 y3 : Fin P0) : ((0 + 1 * y1) + (0 + 0 * y1) * y2) + ((0 + 0 * y1) + (0 + 0 * y1) * y2) * y3 = y1 := by grind
theorem e8c (y1 y2 y3 : Fin P0) : ((0 + 0 * y1) + (1 + 0 * y1) * y2) + ((0 + 0 * y1) + (0 + 0 * y1) * y2) * y3 = y2 := by grind
theorem e8d (y1 y2 y3 : Fin P0) : ((0 + 0 * y1) + (0 + 0 * y1) * y2) + ((1 + 0 * y1) + (0 + 0 * y1) * y2) * y3 = y3 := by grind
theorem e8s (x1 x2 x3 : Fin P0) : φ3 (oF P0) (castI P0) x1 x2 x3 (seven o3) = 7 := by
 have := rel_seven (hom3 (rgF P0) (homK (P0 := P0)) x1 x2 x3)
 rw [this]; simp only [seven, oF]; grind
theorem e8x (x1 x2 x3 : Fin P0) : φ3 (oF P0) (castI P0) x1 x2 x3 X1 = x1 := by simp only [φ3, X1, evL, cast0, cast1, oF]; grind
theorem e8y (x1 x2 x3 : Fin P0) : φ3 (oF P0) (castI P0) x1 x2 x3 X2 = x2 := by simp only [φ3, X2, evL, cast1, oF]; grind
theorem e8z (x1 x2 x3 : Fin P0) : φ3 (oF P0) (castI P0) x1 x2 x3 X3 = x3 := by simp only [φ3, X3, evL, cast1, oF]; grind
theorem e8r (a y : Fin P0) : a + 0 * y = a := by grind
theorem poly_zero {N1 N2 N3 M : Nat} {e : PE} (hM : 0 < M) (h : chkP N1 N2 N3 M e = true) {x1 y1 x2 y2 x3 y3 : Fin P0} (h1 : y1 * y1 = x1 * x1 * x1 + 7) (h2 : y2 * y2 = x2 * x2 * x2 + 7) (h3 : y3 * y3 = x3 * x3 * x3 + 7) :
  e.ev (oF P0) (envK x1 y1 x2 y2 x3 y3) = 0 := by
 simp only [chkP, Bool.and_eq_true] at h
 obtain ⟨⟨⟨⟨a1, a2⟩, a3⟩, a4⟩, a5⟩ := h
 have b1 := abs_le _ _ _ _ e a1
 have b2 := abs_le _ _ _ _ e a2
 have b3 := abs_le _ _ _ _ e a3
 have b4 := abs_le _ _ _ _ e a4
 have b5 := mod_zero _ _ _ _ hM e a5
 have z : ∀ p : P3, ((M : Int) ∣ φ3 oI idI (N1 : Int) (N2 : Int) (N3 : Int) p) -> ν3 N1 N2 N3 p < M -> ν3 N1 N2 1 p < N3 -> ν3 N1 1 1 p < N2 -> ν3 1 1 1 p < N1 -> φ3 (oF P0) (castI P0) x1 x2 x3 p = 0 :=
  fun p q0 q1 q2 q3 q4 => zero3 q0 q1 q2 q3 q4 x1 x2 x3
 have hφ := hom3 (rgF P0) (homK (P0 := P0)) x1 x2 x3
 have s7 := e8s x1 x2 x3
 have c1 := e8x x1 x2 x3
 have c2 := e8y x1 x2 x3
 have c3 := e8z x1 x2 x3
 generalize φ3 (oF P0) (castI P0) x1 x2 x3 = φ at hφ s7 c1 c2 c3 z
 have hz : φ o3.zero = 0 := hφ.z
 have ho : φ o3.one = 1 := hφ.one
 have cu : ∀ (X : P3) (x : Fin P0), φ X = x -> φ (cub o3 X) = x * x * x + 7 := by
  intro X x hx
  have e : φ (cub o3 X) = φ X * φ X * φ X + φ (seven o3) := by unfold cub; rw [hφ.a, hφ.m, hφ.m]; rfl
  rw [e, hx, s7]
 have H1 := hom_yOps (rgF P0) hφ (r := cub o3 X1) (y := y1) (by rw [cu _ _ c1]; exact h1)
 have H2 := hom_yOps (rgF P0) H1 (r := (cub o3 X2, o3.zero)) (y := y2) (by
  show y2 * y2 = φ (cub o3 X2) + φ o3.zero * y1
  rw [cu _ _ c2, hz, e8r, h2])
 have H3 := hom_yOps (rgF P0) H2 (r := ((cub o3 X3, o3.zero), (o3.zero, o3.zero))) (y := y3) (by
  show y3 * y3 = (φ (cub o3 X3) + φ o3.zero * y1) + (φ o3.zero + φ o3.zero * y1) * y2
  rw [cu _ _ c3, hz, e8r, e8r, e8r, h3])
 have key := PE.rel H3 (env := env8 o3 X1 X2 X3) (env' := envK x1 y1 x2 y2 x3 y3) (by
  intro i
  match i with
  | 0 =>
   show ((φ X1 + φ o3.zero * y1) + (φ o3.zero + φ o3.zero * y1) * y2) + ((φ o3.zero + φ o3.zero * y1) + (φ o3.zero + φ o3.zero * y1) * y2) * y3 = x1
   rw [hz, c1]; exact e8a _ _ _ _
  | 1 =>
   show ((φ o3.zero + φ o3.one * y1) + (φ o3.zero + φ o3.zero * y1) * y2) + ((φ o3.zero + φ o3.zero * y1) + (φ o3.zero + φ o3.zero * y1) * y2) * y3 = y1
   rw [hz, ho]; exact e8b _ _ _
  | 2 =>
   show ((φ X2 + φ o3.zero * y1) + (φ o3.zero + φ o3.zero * y1) * y2) + ((φ o3.zero + φ o3.zero * y1) + (φ o3.zero + φ o3.zero * y1) * y2) * y3 = x2
   rw [hz, c2]; exact e8a _ _ _ _
  | 3 =>
   show ((φ o3.zero + φ o3.zero * y1) + (φ o3.one + φ o3.zero * y1) * y2) + ((φ o3.zero + φ o3.zero * y1) + (φ o3.zero + φ o3.zero * y1) * y2) * y3 = y2
   rw [hz, ho]; exact e8c _ _ _
  | 4 =>
   show ((φ X3 + φ o3.zero * y1) + (φ o3.zero + φ o3.zero * y1) * y2) + ((φ o3.zero + φ o3.zero * y1) + (φ o3.zero + φ o3.zero * y1) * y2) * y3 = x3
   rw [hz, c3]; exact e8a _ _ _ _
  | _ + 5 =>
   show ((φ o3.zero + φ o3.zero * y1) + (φ o3.zero + φ o3.zero * y1) * y2) + ((φ o3.one + φ o3.zero * y1) + (φ o3.zero + φ o3.zero * y1) * y2) * y3 = y3
   rw [hz, ho]; exact e8d _ _ _) e
 rw [<- key]
 show ((φ e.p8.1.1.1 + φ e.p8.1.1.2 * y1) + (φ e.p8.1.2.1 + φ e.p8.1.2.2 * y1) * y2) + ((φ e.p8.2.1.1 + φ e.p8.2.1.2 * y1) + (φ e.p8.2.2.1 + φ e.p8.2.2.2 * y1) * y2) * y3 = 0
 rw [z _ b5.1.1.1 b4.1.1.1 b3.1.1.1 b2.1.1.1 b1.1.1.1, z _ b5.1.1.2 b4.1.1.2 b3.1.1.2 b2.1.1.2 b1.1.1.2, z _ b5.1.2.1 b4.1.2.1 b3.1.2.1 b2.1.2.1 b1.1.2.1, z _ b5.1.2.2 b4.1.2.2 b3.1.2.2 b2.1.2.2 b1.1.2.2,
  z _ b5.2.1.1 b4.2.1.1 b3.2.1.1 b2.2.1.1 b1.2.1.1, z _ b5.2.1.2 b4.2.1.2 b3.2.1.2 b2.2.1.2 b1.2.1.2, z _ b5.2.2.1 b4.2.2.1 b3.2.2.1 b2.2.2.1 b1.2.2.1, z _ b5.2.2.2 b4.2.2.2 b3.2.2.2 b2.2.2.2 b1.2.2.2]
 exact e8a 0 _ _ _
end
end Go.W

namespace Go.W
section
variable {P0 : Nat} [NeZero P0]
def fX (X1 Y1 Z1 X2 Y2 Z2 : (Fin P0)) : (Fin P0) := (X1 * Y2 + X2 * Y1) * (Y1 * Y2 - 21 * (Z1 * Z2)) - 21 * (Y1 * Z2 + Y2 * Z1) * (X1 * Z2 + X2 * Z1)
def fY (X1 Y1 Z1 X2 Y2 Z2 : (Fin P0)) : (Fin P0) := (Y1 * Y2 + 21 * (Z1 * Z2)) * (Y1 * Y2 - 21 * (Z1 * Z2)) + 63 * (X1 * X2) * (X1 * Z2 + X2 * Z1)
def fZ (X1 Y1 Z1 X2 Y2 Z2 : (Fin P0)) : (Fin P0) := (Y1 * Z2 + Y2 * Z1) * (Y1 * Y2 + 21 * (Z1 * Z2)) + 3 * (X1 * X2) * (X1 * Y2 + X2 * Y1)
end
def e3 : PE := .add (.add .one .one) .one
def e7 : PE := .add (.add (.add .one .one) (.add .one .one)) e3
def e21 : PE := .mul e3 e7
def e63 : PE := .mul e3 e21
def eX (X1 Y1 Z1 X2 Y2 Z2 : PE) : PE := .sub (.mul (.add (.mul X1 Y2) (.mul X2 Y1)) (.sub (.mul Y1 Y2) (.mul e21 (.mul Z1 Z2)))) (.mul (.mul e21 (.add (.mul Y1 Z2) (.mul Y2 Z1))) (.add (.mul X1 Z2) (.mul X2 Z1)))
def eY (X1 Y1 Z1 X2 Y2 Z2 : PE) : PE := .add (.mul (.add (.mul Y1 Y2) (.mul e21 (.mul Z1 Z2))) (.sub (.mul Y1 Y2) (.mul e21 (.mul Z1 Z2)))) (.mul (.mul e63 (.mul X1 X2)) (.add (.mul X1 Z2) (.mul X2 Z1)))
def eZ (X1 Y1 Z1 X2 Y2 Z2 : PE) : PE := .add (.mul (.add (.mul Y1 Z2) (.mul Y2 Z1)) (.add (.mul Y1 Y2) (.mul e21 (.mul Z1 Z2)))) (.mul (.mul e3 (.mul X1 X2)) (.add (.mul X1 Y2) (.mul X2 Y1)))
def ePQ (f : PE -> PE -> PE -> PE -> PE -> PE -> PE) : PE := f (.v 0) (.v 1) .one (.v 2) (.v 3) .one
def eQR (f : PE -> PE -> PE -> PE -> PE -> PE -> PE) : PE := f (.v 2) (.v 3) .one (.v 4) (.v 5) .one
def eL (f : PE -> PE -> PE -> PE -> PE -> PE -> PE) : PE := f (ePQ eX) (ePQ eY) (ePQ eZ) (.v 4) (.v 5) .one
def eR (f : PE -> PE -> PE -> PE -> PE -> PE -> PE) : PE := f (.v 0) (.v 1) .one (eQR eX) (eQR eY) (eQR eZ)
def asX : PE := .sub (.mul (eL eX) (eR eZ)) (.mul (eL eZ) (eR eX))
def asY : PE := .sub (.mul (eL eY) (eR eZ)) (.mul (eL eZ) (eR eY))
theorem asX_chk : chkP (2 ^ 49) (2 ^ 472) (2 ^ 6114) (2 ^ 61036) asX = true := by kernel_rfl
theorem asY_chk : chkP (2 ^ 49) (2 ^ 472) (2 ^ 6114) (2 ^ 61036) asY = true := by kernel_rfl
section
variable {P0 : Nat} [NeZero P0]
theorem e3_ev (env : Nat -> (Fin P0)) : e3.ev (oF P0) env = 3 := by simp only [e3, PE.ev, oF]; grind
theorem e7_ev (env : Nat -> (Fin P0)) : e7.ev (oF P0) env = 7 := by simp only [e7, e3, PE.ev, oF]; grind
theorem e21_ev (env : Nat -> (Fin P0)) : e21.ev (oF P0) env = 21 := by
 show e3.ev (oF P0) env * e7.ev (oF P0) env = 21
 rw [e3_ev, e7_ev]; grind
theorem e63_ev (env : Nat -> (Fin P0)) : e63.ev (oF P0) env = 63 := by
 show e3.ev (oF P0) env * e21.ev (oF P0) env = 63
 rw [e3_ev, e21_ev]; grind
theorem eX_ev (env : Nat -> (Fin P0)) (a b c d e f : PE) : (eX a b c d e f).ev (oF P0) env = fX (a.ev (oF P0) env) (b.ev (oF P0) env) (c.ev (oF P0) env) (d.ev (oF P0) env) (e.ev (oF P0) env) (f.ev (oF P0) env) := by
 unfold fX
 rw [<- e21_ev env]; rfl
theorem eY_ev (env : Nat -> (Fin P0)) (a b c d e f : PE) : (eY a b c d e f).ev (oF P0) env = fY (a.ev (oF P0) env) (b.ev (oF P0) env) (c.ev (oF P0) env) (d.ev (oF P0) env) (e.ev (oF P0) env) (f.ev (oF P0) env) := by
 unfold fY
 rw [<- e21_ev env, <- e63_ev env]; rfl
theorem eZ_ev (env : Nat -> (Fin P0)) (a b c d e f : PE) : (eZ a b c d e f).ev (oF P0) env = fZ (a.ev (oF P0) env) (b.ev (oF P0) env) (c.ev (oF P0) env) (d.ev (oF P0) env) (e.ev (oF P0) env) (f.ev (oF P0) env) := by
 unfold fZ
 rw [<- e21_ev env, <- e3_ev env]; rfl
theorem assocX {x1 y1 x2 y2 x3 y3 : (Fin P0)} (h1 : y1 * y1 = x1 * x1 * x1 + 7) (h2 : y2 * y2 = x2 * x2 * x2 + 7) (h3 : y3 * y3 = x3 * x3 * x3 + 7) :
  fX (fX x1 y1 1 x2 y2 1) (fY x1 y1 1 x2 y2 1) (fZ x1 y1 1 x2 y2 1) x3 y3 1 * fZ x1 y1 1 (fX x2 y2 1 x3 y3 1) (fY x2 y2 1 x3 y3 1) (fZ x2 y2 1 x3 y3 1) =
  fZ (fX x1 y1 1 x2 y2 1) (fY x1 y1 1 x2 y2 1) (fZ x1 y1 1 x2 y2 1) x3 y3 1 * fX x1 y1 1 (fX x2 y2 1 x3 y3 1) (fY x2 y2 1 x3 y3 1) (fZ x2 y2 1 x3 y3 1) := by
 have h := poly_zero (Nat.two_pow_pos _) asX_chk h1 h2 h3
 have e : asX.ev (oF P0) (envK x1 y1 x2 y2 x3 y3) = (eL eX).ev (oF P0) (envK x1 y1 x2 y2 x3 y3) * (eR eZ).ev (oF P0) (envK x1 y1 x2 y2 x3 y3) - (eL eZ).ev (oF P0) (envK x1 y1 x2 y2 x3 y3) * (eR eX).ev (oF P0) (envK x1 y1 x2 y2 x3 y3) := rfl
 rw [e] at h
 simp only [eL, eR, ePQ, eQR, eX_ev, eY_ev, eZ_ev, PE.ev, envK] at h
 have o : (oF P0).one = 1 := rfl
 rw [o] at h
 generalize fX (fX x1 y1 1 x2 y2 1) (fY x1 y1 1 x2 y2 1) (fZ x1 y1 1 x2 y2 1) x3 y3 1 = A at *
 generalize fZ (fX x1 y1 1 x2 y2 1) (fY x1 y1 1 x2 y2 1) (fZ x1 y1 1 x2 y2 1) x3 y3 1 = B at *
 generalize fX x1 y1 1 (fX x2 y2 1 x3 y3 1) (fY x2 y2 1 x3 y3 1) (fZ x2 y2 1 x3 y3 1) = C at *
 generalize fZ x1 y1 1 (fX x2 y2 1 x3 y3 1) (fY x2 y2 1 x3 y3 1) (fZ x2 y2 1 x3 y3 1) = D at *
 grind
theorem assocY {x1 y1 x2 y2 x3 y3 : (Fin P0)} (h1 : y1 * y1 = x1 * x1 * x1 + 7) (h2 : y2 * y2 = x2 * x2 * x2 + 7) (h3 : y3 * y3 = x3 * x3 * x3 + 7) :
  fY (fX x1 y1 1 x2 y2 1) (fY x1 y1 1 x2 y2 1) (fZ x1 y1 1 x2 y2 1) x3 y3 1 * fZ x1 y1 1 (fX x2 y2 1 x3 y3 1) (fY x2 y2 1 x3 y3 1) (fZ x2 y2 1 x3 y3 1) =
  fZ (fX x1 y1 1 x2 y2 1) (fY x1 y1 1 x2 y2 1) (fZ x1 y1 1 x2 y2 1) x3 y3 1 * fY x1 y1 1 (fX x2 y2 1 x3 y3 1) (fY x2 y2 1 x3 y3 1) (fZ x2 y2 1 x3 y3 1) := by
 have h := poly_zero (Nat.two_pow_pos _) asY_chk h1 h2 h3
 have e : asY.ev (oF P0) (envK x1 y1 x2 y2 x3 y3) = (eL eY).ev (oF P0) (envK x1 y1 x2 y2 x3 y3) * (eR eZ).ev (oF P0) (envK x1 y1 x2 y2 x3 y3) - (eL eZ).ev (oF P0) (envK x1 y1 x2 y2 x3 y3) * (eR eY).ev (oF P0) (envK x1 y1 x2 y2 x3 y3) := rfl
 rw [e] at h
 simp only [eL, eR, ePQ, eQR, eX_ev, eY_ev, eZ_ev, PE.ev, envK] at h
 have o : (oF P0).one = 1 := rfl
 rw [o] at h
 generalize fY (fX x1 y1 1 x2 y2 1) (fY x1 y1 1 x2 y2 1) (fZ x1 y1 1 x2 y2 1) x3 y3 1 = A at *
 generalize fZ (fX x1 y1 1 x2 y2 1) (fY x1 y1 1 x2 y2 1) (fZ x1 y1 1 x2 y2 1) x3 y3 1 = B at *
 generalize fY x1 y1 1 (fX x2 y2 1 x3 y3 1) (fY x2 y2 1 x3 y3 1) (fZ x2 y2 1 x3 y3 1) = C at *
 generalize fZ x1 y1 1 (fX x2 y2 1 x3 y3 1) (fY x2 y2 1 x3 y3 1) (fZ x2 y2 1 x3 y3 1) = D at *
 grind
end
end Go.W

namespace Go.W
section
variable {P0 : Nat} [NeZero P0]
theorem g1 {a b c x : (Fin P0)} (h : a - b - c = x) : a = x + b + c := by grind
theorem g2 (k x1 y1 x3 : (Fin P0)) : (k * (x1 - x3) - y1) * (k * (x1 - x3) - y1) = (k * k) * ((x3 - x1) * (x3 - x1)) + (2 * k * y1) * (x3 - x1) + y1 * y1 := by grind
theorem g3 {a b c : (Fin P0)} (h : a - b - c = 0) : c = a - b := by grind
theorem g4 (x1 x2 x3 : (Fin P0)) : (x3 + x1 + x2) * ((x3 - x1) * (x3 - x1)) + (x1 * x1 + x1 * x2 + x2 * x2 - (x3 + x1 + x2) * (x2 - x1)) * (x3 - x1) + (x1 * x1 * x1 + 7) = x3 * x3 * x3 + 7 := by grind
theorem g5 {a b c : (Fin P0)} (h1 : a * a = c) (h2 : b * b = c) : (a + b) * (a - b) = 0 := by grind
theorem g6 {a b : (Fin P0)} (h : a - b = 0) : a = b := by grind
theorem g7 (x1 y1 x2 k : (Fin P0)) : (x2 - x1) * (x1 * x1 + x1 * x2 + x2 * x2 - k * k * (x2 - x1) - 2 * k * y1) = (x2 * x2 * x2 + 7) - (x1 * x1 * x1 + 7) - (k * (x2 - x1)) * (k * (x2 - x1) + 2 * y1) := by grind
theorem g8 (y1 y2 : (Fin P0)) : y2 * y2 - y1 * y1 - (y2 - y1) * (y2 - y1 + 2 * y1) = 0 := by grind
theorem g9 (a i d : (Fin P0)) : a * i * d = a * (d * i) := by grind
theorem g10 (a : (Fin P0)) : a * 1 = a := by grind
theorem g11 (y : (Fin P0)) : (0 - y) * (0 - y) = y * y := by grind
theorem g12 (k d x1 x2 y1 : (Fin P0)) : (k * d) * ((x1 + x1 + x2) * (d * d) - (k * d) * (k * d)) - y1 * (d * d * d) = d * (d * (d * (k * (x1 - (k * k - x1 - x2)) - y1))) := by grind
theorem g13 (C k d x1 x2 : (Fin P0)) : C * ((k * d) * (k * d) - (x1 + x2) * (d * d)) = d * d * (C * (k * k - x1 - x2)) := by grind
theorem g14 (C k d x1 x2 y1 : (Fin P0)) : C * ((k * d) * ((x1 + x1 + x2) * (d * d) - (k * d) * (k * d)) - y1 * (d * d * d)) = d * d * d * (C * (k * (x1 - (k * k - x1 - x2)) - y1)) := by grind
theorem g15 (k d x : (Fin P0)) : d * ((k * d) * (k * d) - (x + x) * (d * d)) = d * (d * d) * (k * k - x - x) := by grind
theorem g16 (k d x y : (Fin P0)) : (k * d) * ((x + x + x) * (d * d) - (k * d) * (k * d)) - y * (d * (d * d)) = d * (d * d) * (k * (x - (k * k - x - x)) - y) := by grind
theorem g17 (a : (Fin P0)) : a = a * 1 := by grind
theorem g18 {a b : (Fin P0)} (h : a + b = 0) : b = 0 - a := by grind
theorem g19 (a b c : (Fin P0)) : a * a * (b * c) = a * a * b * c := by grind
theorem g21 {c d x1 x2 : (Fin P0)} (h : c * x1 * (d * 1) = c * 1 * (d * x2)) : c * d * x1 = c * d * x2 := by grind
theorem g22 {c d y : (Fin P0)} (h : c * 1 * (d * 1) = c * 0 * (d * y)) : c * d = 0 := by grind
theorem g23 {c d y : (Fin P0)} (h : c * y * (d * 0) = c * 1 * (d * 1)) : c * d = 0 := by grind
theorem g24 {a b c : (Fin P0)} (h : a * b = a * c) : a * (b - c) = 0 := by grind
theorem g25 {x y k : (Fin P0)} (hk : k * (2 * y) = 3 * (x * x)) : x * x + x * x + x * x - k * k * (x - x) - 2 * k * y = 0 := by grind
theorem g26 (a i b : (Fin P0)) (h : a * i = 1) : b = i * (a * b) := by grind
theorem g27 (a : (Fin P0)) : a * 0 = 0 := by grind
theorem g30 (a b : (Fin P0)) : a * b = b * a := by grind
end
structure Fld (P0 : Nat) [NeZero P0] (inv : Fin P0 -> Fin P0) : Prop where
 inv : ∀ a : (Fin P0), a ≠ 0 -> a * inv a = 1
 one : (1 : (Fin P0)) ≠ 0
 two : (2 : (Fin P0)) ≠ 0
 tor : ∀ x y : (Fin P0), y * y = x * x * x + 7 -> y ≠ 0
inductive Pt (KK : Type) where
 | inf
 | aff (x y : KK)
 deriving DecidableEq
section
variable {P0 : Nat} [NeZero P0]
theorem gz {x1 y1 x2 y2 : (Fin P0)} (h1 : y1 * y1 = x1 * x1 * x1 + 7) (h2 : y2 * y2 = x2 * x2 * x2 + 7) :
  fZ x1 y1 1 x2 y2 1 = (0 - y2 - y1) * ((x1 + x1 + x2) * ((x2 - x1) * (x2 - x1)) - (0 - y2 - y1) * (0 - y2 - y1)) - y1 * ((x2 - x1) * (x2 - x1) * (x2 - x1)) := by unfold fZ; grind
theorem gxx {x1 y1 x2 y2 : (Fin P0)} (h1 : y1 * y1 = x1 * x1 * x1 + 7) (h2 : y2 * y2 = x2 * x2 * x2 + 7) :
  (x2 - x1) * (x2 - x1) * fX x1 y1 1 x2 y2 1 = fZ x1 y1 1 x2 y2 1 * ((y2 - y1) * (y2 - y1) - (x1 + x2) * ((x2 - x1) * (x2 - x1))) := by unfold fX fZ; grind
theorem gyy {x1 y1 x2 y2 : (Fin P0)} (h1 : y1 * y1 = x1 * x1 * x1 + 7) (h2 : y2 * y2 = x2 * x2 * x2 + 7) :
  (x2 - x1) * (x2 - x1) * (x2 - x1) * fY x1 y1 1 x2 y2 1 = fZ x1 y1 1 x2 y2 1 * ((y2 - y1) * ((x1 + x1 + x2) * ((x2 - x1) * (x2 - x1)) - (y2 - y1) * (y2 - y1)) - y1 * ((x2 - x1) * (x2 - x1) * (x2 - x1))) := by unfold fY fZ; grind
theorem gtz {x y : (Fin P0)} (h1 : y * y = x * x * x + 7) : fZ x y 1 x y 1 = (2 * y) * ((2 * y) * (2 * y)) := by unfold fZ; grind
theorem gtx {x y : (Fin P0)} (h1 : y * y = x * x * x + 7) : fX x y 1 x y 1 = (2 * y) * ((3 * (x * x)) * (3 * (x * x)) - (x + x) * ((2 * y) * (2 * y))) := by unfold fX; grind
theorem gty {x y : (Fin P0)} (h1 : y * y = x * x * x + 7) : fY x y 1 x y 1 = (3 * (x * x)) * ((x + x + x) * ((2 * y) * (2 * y)) - (3 * (x * x)) * (3 * (x * x))) - y * ((2 * y) * ((2 * y) * (2 * y))) := by unfold fY; grind
theorem gox (x y : (Fin P0)) : fX x y 1 x (0 - y) 1 = 0 := by unfold fX; grind
theorem goz (x y : (Fin P0)) : fZ x y 1 x (0 - y) 1 = 0 := by unfold fZ; grind
theorem goy {x y : (Fin P0)} (h1 : y * y = x * x * x + 7) : fY x y 1 x (0 - y) 1 = (3 * (x * x)) * ((x + x + x) * ((2 * y) * (2 * y)) - (3 * (x * x)) * (3 * (x * x))) - y * ((2 * y) * (2 * y) * (2 * y)) := by unfold fY; grind
end
section
variable {P0 : Nat} [NeZero P0] {inv : Fin P0 -> Fin P0}
theorem Fld.dom (F : Fld P0 inv) {a b : (Fin P0)} (h : a * b = 0) : a = 0 ∨ b = 0 := by
 by_cases ha : a = 0
 · exact .inl ha
 · right
  have h1 := F.inv a ha
  rw [g26 a (inv a) b h1, h, g27]
theorem Fld.mul_ne (F : Fld P0 inv) {a b : (Fin P0)} (ha : a ≠ 0) (hb : b ≠ 0) : a * b ≠ 0 := fun h => (F.dom h).elim ha hb
theorem Fld.cancel (F : Fld P0 inv) {a b c : (Fin P0)} (ha : a ≠ 0) (h : a * b = a * c) : b = c := by
 rcases F.dom (g24 h) with h1 | h1
 · exact absurd h1 ha
 · exact g6 h1
def On : Pt (Fin P0) -> Prop
 | .inf => True
 | .aff x y => y * y = x * x * x + 7
def negP : Pt (Fin P0) -> Pt (Fin P0)
 | .inf => .inf
 | .aff x y => .aff x (0 - y)
def line (k x1 y1 x2 : (Fin P0)) : Pt (Fin P0) := .aff (k * k - x1 - x2) (k * (x1 - (k * k - x1 - x2)) - y1)
theorem line_on {k x1 y1 x2 : (Fin P0)} (h1 : y1 * y1 = x1 * x1 * x1 + 7) (hE : x1 * x1 + x1 * x2 + x2 * x2 - k * k * (x2 - x1) - 2 * k * y1 = 0) : On (line k x1 y1 x2) := by
 show (k * (x1 - (k * k - x1 - x2)) - y1) * (k * (x1 - (k * k - x1 - x2)) - y1) = (k * k - x1 - x2) * (k * k - x1 - x2) * (k * k - x1 - x2) + 7
 generalize hx : k * k - x1 - x2 = x3
 have hk : k * k = x3 + x1 + x2 := g1 hx
 have e2 := g3 hE
 rw [hk] at e2
 rw [g2, e2, hk, h1]; exact g4 x1 x2 x3
theorem sq_eq (F : Fld P0 inv) {x y1 y2 : (Fin P0)} (h1 : y1 * y1 = x * x * x + 7) (h2 : y2 * y2 = x * x * x + 7) : y1 + y2 = 0 ∨ y1 = y2 := by
 rcases F.dom (g5 h1 h2) with h | h
 · exact .inl h
 · exact .inr (g6 h)
theorem chord_E (F : Fld P0 inv) {x1 y1 x2 y2 k : (Fin P0)} (h1 : y1 * y1 = x1 * x1 * x1 + 7) (h2 : y2 * y2 = x2 * x2 * x2 + 7) (hd : x2 - x1 ≠ 0) (hk : k * (x2 - x1) = y2 - y1) :
  x1 * x1 + x1 * x2 + x2 * x2 - k * k * (x2 - x1) - 2 * k * y1 = 0 := by
 have e := g7 x1 y1 x2 k
 rw [hk, <- h1, <- h2, g8] at e
 exact (F.dom e).resolve_left hd
theorem tan_E {x y k : (Fin P0)} (hk : k * (2 * y) = 3 * (x * x)) : x * x + x * x + x * x - k * k * (x - x) - 2 * k * y = 0 := g25 hk
theorem chord_k (F : Fld P0 inv) {x1 y1 x2 y2 : (Fin P0)} (hd : x2 - x1 ≠ 0) : (y2 - y1) * inv (x2 - x1) * (x2 - x1) = y2 - y1 := by
 rw [g9, F.inv _ hd, g10]
theorem tan_k (F : Fld P0 inv) {x y : (Fin P0)} (hd : 2 * y ≠ 0) : 3 * (x * x) * inv (2 * y) * (2 * y) = 3 * (x * x) := by
 rw [g9, F.inv _ hd, g10]
def pX : Pt (Fin P0) -> (Fin P0)
 | .inf => 0
 | .aff x _ => x
def pY : Pt (Fin P0) -> (Fin P0)
 | .inf => 1
 | .aff _ y => y
def pZ : Pt (Fin P0) -> (Fin P0)
 | .inf => 0
 | .aff _ _ => 1
def Is (c : (Fin P0)) (p : Pt (Fin P0)) (X Y Z : (Fin P0)) : Prop := X = c * pX p ∧ Y = c * pY p ∧ Z = c * pZ p
theorem chord_is (F : Fld P0 inv) {x1 y1 x2 y2 k : (Fin P0)} (h1 : y1 * y1 = x1 * x1 * x1 + 7) (h2 : y2 * y2 = x2 * x2 * x2 + 7) (hd : x2 - x1 ≠ 0) (hk : k * (x2 - x1) = y2 - y1) :
  fZ x1 y1 1 x2 y2 1 ≠ 0 ∧ Is (fZ x1 y1 1 x2 y2 1) (line k x1 y1 x2) (fX x1 y1 1 x2 y2 1) (fY x1 y1 1 x2 y2 1) (fZ x1 y1 1 x2 y2 1) := by
 constructor
 · -- the other point's counterpart
  have h2' : (0 - y2) * (0 - y2) = x2 * x2 * x2 + 7 := by rw [g11, h2]
  have hk' := chord_k F (y1 := y1) (y2 := 0 - y2) hd
  have hon := line_on h1 (chord_E F h1 h2' hd hk')
  generalize (0 - y2 - y1) * inv (x2 - x1) = k' at hk' hon
  have hy := F.tor _ _ hon
  have e : fZ x1 y1 1 x2 y2 1 = (x2 - x1) * ((x2 - x1) * ((x2 - x1) * (k' * (x1 - (k' * k' - x1 - x2)) - y1))) := by
   rw [gz h1 h2, <- hk']; exact g12 _ _ _ _ _
  rw [e]
  exact F.mul_ne hd (F.mul_ne hd (F.mul_ne hd hy))
 · have gx := gxx h1 h2
  have gy := gyy h1 h2
  generalize fX x1 y1 1 x2 y2 1 = A at *
  generalize fY x1 y1 1 x2 y2 1 = B at *
  generalize fZ x1 y1 1 x2 y2 1 = C at *
  have hd2 := F.mul_ne hd hd
  refine ⟨F.cancel hd2 ?_, F.cancel (F.mul_ne hd2 hd) ?_, ?_⟩
  · show (x2 - x1) * (x2 - x1) * A = (x2 - x1) * (x2 - x1) * (C * (k * k - x1 - x2))
   rw [gx, <- hk]; exact g13 _ _ _ _ _
  · show (x2 - x1) * (x2 - x1) * (x2 - x1) * B = (x2 - x1) * (x2 - x1) * (x2 - x1) * (C * (k * (x1 - (k * k - x1 - x2)) - y1))
   rw [gy, <- hk]; exact g14 _ _ _ _ _ _
  · show C = C * 1
   exact g17 _
theorem tan_is (F : Fld P0 inv) {x y k : (Fin P0)} (h1 : y * y = x * x * x + 7) (hk : k * (2 * y) = 3 * (x * x)) :
  fZ x y 1 x y 1 ≠ 0 ∧ Is (fZ x y 1 x y 1) (line k x y x) (fX x y 1 x y 1) (fY x y 1 x y 1) (fZ x y 1 x y 1) := by
 have hy := F.tor _ _ h1
 have h2 := F.mul_ne F.two hy
 have hz := gtz h1
 constructor
 · rw [hz]; exact F.mul_ne h2 (F.mul_ne h2 h2)
 · have gx := gtx h1
  have gy := gty h1
  refine ⟨?_, ?_, ?_⟩
  · show _ = fZ x y 1 x y 1 * (k * k - x - x)
   rw [gx, hz, <- hk]; exact g15 _ _ _
  · show _ = fZ x y 1 x y 1 * (k * (x - (k * k - x - x)) - y)
   rw [gy, hz, <- hk]; exact g16 _ _ _ _
  · show _ = fZ x y 1 x y 1 * 1
   exact g17 _
theorem same_pt (F : Fld P0 inv) {p q : Pt (Fin P0)} {c d X Y Z X' Y' Z' : (Fin P0)} (hc : c ≠ 0) (hd : d ≠ 0) (hp : Is c p X Y Z) (hq : Is d q X' Y' Z') (hx : X * Z' = Z * X') (hy : Y * Z' = Z * Y') : p = q := by
 obtain ⟨rfl, rfl, rfl⟩ := hp
 obtain ⟨rfl, rfl, rfl⟩ := hq
 have hcd := F.mul_ne hc hd
 match p, q, hx, hy with
 | .inf, .inf, _, _ => rfl
 | .inf, .aff x y, hx, hy =>
  simp only [pY, pZ] at hy
  exact absurd (g22 hy) hcd
 | .aff x y, .inf, hx, hy =>
  simp only [pY, pZ] at hy
  exact absurd (g23 hy) hcd
 | .aff x1 y1, .aff x2 y2, hx, hy =>
  simp only [pX, pY, pZ] at hx hy
  have e1 : x1 = x2 := F.cancel hcd (g21 hx)
  have e2 : y1 = y2 := F.cancel hcd (g21 hy)
  rw [e1, e2]
theorem f_left (c X Y Z X' Y' Z' : (Fin P0)) : fX (c * X) (c * Y) (c * Z) X' Y' Z' = c * c * fX X Y Z X' Y' Z' ∧ fY (c * X) (c * Y) (c * Z) X' Y' Z' = c * c * fY X Y Z X' Y' Z' ∧ fZ (c * X) (c * Y) (c * Z) X' Y' Z' = c * c * fZ X Y Z X' Y' Z' := by
 refine ⟨?_, ?_, ?_⟩
 · unfold fX; grind
 · unfold fY; grind
 · unfold fZ; grind
theorem f_right (c X Y Z X' Y' Z' : (Fin P0)) : fX X' Y' Z' (c * X) (c * Y) (c * Z) = c * c * fX X' Y' Z' X Y Z ∧ fY X' Y' Z' (c * X) (c * Y) (c * Z) = c * c * fY X' Y' Z' X Y Z ∧ fZ X' Y' Z' (c * X) (c * Y) (c * Z) = c * c * fZ X' Y' Z' X Y Z := by
 refine ⟨?_, ?_, ?_⟩
 · unfold fX; grind
 · unfold fY; grind
 · unfold fZ; grind
theorem neg_on {p : Pt (Fin P0)} (hp : On p) : On (negP p) := by
 cases p with
 | inf => trivial
 | aff x y =>
  have hp' : y * y = x * x * x + 7 := hp
  show (0 - y) * (0 - y) = x * x * x + 7
  rw [<- hp']; exact g11 _
def addP (inv : (Fin P0) -> (Fin P0)) : Pt (Fin P0) -> Pt (Fin P0) -> Pt (Fin P0)
 | .inf, q => q
 | .aff x y, .inf => .aff x y
 | .aff x1 y1, .aff x2 y2 =>
  if x1 = x2 then (if y1 + y2 = 0 then .inf else line (3 * (x1 * x1) * inv (2 * y1)) x1 y1 x1)
  else line ((y2 - y1) * inv (x2 - x1)) x1 y1 x2
theorem addP_aff (x1 y1 x2 y2 : (Fin P0)) : addP inv (.aff x1 y1) (.aff x2 y2) = if x1 = x2 then (if y1 + y2 = 0 then .inf else line (3 * (x1 * x1) * inv (2 * y1)) x1 y1 x1)
  else line ((y2 - y1) * inv (x2 - x1)) x1 y1 x2 := rfl
theorem add_on (F : Fld P0 inv) {p q : Pt (Fin P0)} (hp : On p) (hq : On q) : On (addP inv p q) := by
 match p, q, hp, hq with
 | .inf, q, _, hq => exact hq
 | .aff x y, .inf, hp, _ => exact hp
 | .aff x1 y1, .aff x2 y2, hp, hq =>
  rw [addP_aff]
  split
  · rename_i hx
   split
   · trivial
   · have hy : y1 ≠ 0 := F.tor _ _ hp
    exact line_on hp (tan_E (tan_k F (F.mul_ne F.two hy)))
  · rename_i hx
   have hd : x2 - x1 ≠ 0 := fun h => hx (g6 h).symm
   exact line_on hp (chord_E F hp hq hd (chord_k F hd))
theorem add_is (F : Fld P0 inv) {p q : Pt (Fin P0)} (hp : On p) (hq : On q) : ∃ c, c ≠ 0 ∧
  Is c (addP inv p q) (fX (pX p) (pY p) (pZ p) (pX q) (pY q) (pZ q)) (fY (pX p) (pY p) (pZ p) (pX q) (pY q) (pZ q)) (fZ (pX p) (pY p) (pZ p) (pX q) (pY q) (pZ q)) := by
 match p, q, hp, hq with
 | .inf, .inf, _, _ =>
  refine ⟨1, F.one, ?_, ?_, ?_⟩ <;> simp only [fX, fY, fZ, pX, pY, pZ, addP] <;> grind
 | .inf, .aff x y, _, hq =>
  refine ⟨y, F.tor _ _ hq, ?_, ?_, ?_⟩ <;> simp only [fX, fY, fZ, pX, pY, pZ, addP] <;> grind
 | .aff x y, .inf, hp, _ =>
  refine ⟨y, F.tor _ _ hp, ?_, ?_, ?_⟩ <;> simp only [fX, fY, fZ, pX, pY, pZ, addP] <;> grind
 | .aff x1 y1, .aff x2 y2, hp, hq =>
  rw [addP_aff]
  split
  · rename_i hx
   subst hx
   split
   · rename_i hy
    have e : y2 = 0 - y1 := g18 hy
    subst e
    have hy1 := F.tor _ _ hp
    have hk := tan_k F (x := x1) (F.mul_ne F.two hy1)
    have hon := line_on hp (tan_E hk)
    generalize 3 * (x1 * x1) * inv (2 * y1) = k at hk hon
    have hy3 := F.tor _ _ hon
    have h2 := F.mul_ne F.two hy1
    have e : fY x1 y1 1 x1 (0 - y1) 1 = (2 * y1) * ((2 * y1) * ((2 * y1) * (k * (x1 - (k * k - x1 - x1)) - y1))) := by
     rw [goy hp, <- hk]; exact g12 _ _ _ _ _
    refine ⟨fY x1 y1 1 x1 (0 - y1) 1, by rw [e]; exact F.mul_ne h2 (F.mul_ne h2 (F.mul_ne h2 hy3)), ?_, ?_, ?_⟩
    · show fX x1 y1 1 x1 (0 - y1) 1 = _ * 0
     rw [gox, g27]
    · show _ = fY x1 y1 1 x1 (0 - y1) 1 * 1
     exact g17 _
    · show fZ x1 y1 1 x1 (0 - y1) 1 = _ * 0
     rw [goz, g27]
   · rename_i hy
    have e : y1 = y2 := (sq_eq F hp hq).resolve_left hy
    subst e
    have hy1 := F.tor _ _ hp
    exact ⟨_, tan_is F hp (tan_k F (F.mul_ne F.two hy1))⟩
  · rename_i hx
   have hd : x2 - x1 ≠ 0 := fun h => hx (g6 h).symm
   exact ⟨_, chord_is F hp hq hd (chord_k F hd)⟩
theorem add_comm (F : Fld P0 inv) {p q : Pt (Fin P0)} (hp : On p) (hq : On q) : addP inv p q = addP inv q p := by
 obtain ⟨c, hc, h1⟩ := add_is F hp hq
 obtain ⟨d, hd, h2⟩ := add_is F hq hp
 refine same_pt F hc hd h1 h2 ?_ ?_
 · have a : ∀ X1 Y1 Z1 X2 Y2 Z2 : (Fin P0), fX X1 Y1 Z1 X2 Y2 Z2 = fX X2 Y2 Z2 X1 Y1 Z1 := by intros; unfold fX; grind
  have b : ∀ X1 Y1 Z1 X2 Y2 Z2 : (Fin P0), fZ X1 Y1 Z1 X2 Y2 Z2 = fZ X2 Y2 Z2 X1 Y1 Z1 := by intros; unfold fZ; grind
  rw [a (pX p), b (pX p)]; exact g30 _ _
 · have a : ∀ X1 Y1 Z1 X2 Y2 Z2 : (Fin P0), fY X1 Y1 Z1 X2 Y2 Z2 = fY X2 Y2 Z2 X1 Y1 Z1 := by intros; unfold fY; grind
  have b : ∀ X1 Y1 Z1 X2 Y2 Z2 : (Fin P0), fZ X1 Y1 Z1 X2 Y2 Z2 = fZ X2 Y2 Z2 X1 Y1 Z1 := by intros; unfold fZ; grind
  rw [a (pX p), b (pX p)]; exact g30 _ _
theorem add_inf (p : Pt (Fin P0)) : addP inv p .inf = p := by cases p <;> rfl
theorem add_assoc (F : Fld P0 inv) {p q r : Pt (Fin P0)} (hp : On p) (hq : On q) (hr : On r) : addP inv (addP inv p q) r = addP inv p (addP inv q r) := by
 match p, q, r, hp, hq, hr with
 | .inf, q, r, _, _, _ => rfl
 | .aff x1 y1, .inf, r, _, _, _ => rfl
 | .aff x1 y1, .aff x2 y2, .inf, _, _, _ => rw [add_inf, add_inf]
 | .aff x1 y1, .aff x2 y2, .aff x3 y3, hp, hq, hr =>
  obtain ⟨c1, n1, a1, a2, a3⟩ := add_is F hp hq
  obtain ⟨c2, n2, b1, b2, b3⟩ := add_is F (add_on F hp hq) hr
  obtain ⟨c3, n3, d1, d2, d3⟩ := add_is F hq hr
  obtain ⟨c4, n4, g1, g2, g3⟩ := add_is F hp (add_on F hq hr)
  replace a1 : fX x1 y1 1 x2 y2 1 = _ := a1
  replace a2 : fY x1 y1 1 x2 y2 1 = _ := a2
  replace a3 : fZ x1 y1 1 x2 y2 1 = _ := a3
  replace d1 : fX x2 y2 1 x3 y3 1 = _ := d1
  replace d2 : fY x2 y2 1 x3 y3 1 = _ := d2
  replace d3 : fZ x2 y2 1 x3 y3 1 = _ := d3
  have hX := assocX hp hq hr
  have hY := assocY hp hq hr
  rw [a1, a2, a3, d1, d2, d3] at hX hY
  obtain ⟨l1, l2, l3⟩ := f_left c1 (pX (addP inv (.aff x1 y1) (.aff x2 y2))) (pY (addP inv (.aff x1 y1) (.aff x2 y2))) (pZ (addP inv (.aff x1 y1) (.aff x2 y2))) x3 y3 1
  obtain ⟨r1, r2, r3⟩ := f_right c3 (pX (addP inv (.aff x2 y2) (.aff x3 y3))) (pY (addP inv (.aff x2 y2) (.aff x3 y3))) (pZ (addP inv (.aff x2 y2) (.aff x3 y3))) x1 y1 1
  rw [l1, l3, r1, r3] at hX
  rw [l2, l3, r2, r3] at hY
  have k1 : c1 * c1 * c2 ≠ 0 := F.mul_ne (F.mul_ne n1 n1) n2
  have k2 : c3 * c3 * c4 ≠ 0 := F.mul_ne (F.mul_ne n3 n3) n4
  refine same_pt F k1 k2 (X := c1 * c1 * fX (pX (addP inv (.aff x1 y1) (.aff x2 y2))) (pY (addP inv (.aff x1 y1) (.aff x2 y2))) (pZ (addP inv (.aff x1 y1) (.aff x2 y2))) x3 y3 1) (Y := c1 * c1 * fY (pX (addP inv (.aff x1 y1) (.aff x2 y2))) (pY (addP inv (.aff x1 y1) (.aff x2 y2))) (pZ (addP inv (.aff x1 y1) (.aff x2 y2))) x3 y3 1) (Z := c1 * c1 * fZ (pX (addP inv (.aff x1 y1) (.aff x2 y2))) (pY (addP inv (.aff x1 y1) (.aff x2 y2))) (pZ (addP inv (.aff x1 y1) (.aff x2 y2))) x3 y3 1)
   (X' := c3 * c3 * fX x1 y1 1 (pX (addP inv (.aff x2 y2) (.aff x3 y3))) (pY (addP inv (.aff x2 y2) (.aff x3 y3))) (pZ (addP inv (.aff x2 y2) (.aff x3 y3)))) (Y' := c3 * c3 * fY x1 y1 1 (pX (addP inv (.aff x2 y2) (.aff x3 y3))) (pY (addP inv (.aff x2 y2) (.aff x3 y3))) (pZ (addP inv (.aff x2 y2) (.aff x3 y3)))) (Z' := c3 * c3 * fZ x1 y1 1 (pX (addP inv (.aff x2 y2) (.aff x3 y3))) (pY (addP inv (.aff x2 y2) (.aff x3 y3))) (pZ (addP inv (.aff x2 y2) (.aff x3 y3)))) ?_ ?_ hX hY
  · refine ⟨?_, ?_, ?_⟩
   · rw [show fX (pX (addP inv (.aff x1 y1) (.aff x2 y2))) (pY (addP inv (.aff x1 y1) (.aff x2 y2))) (pZ (addP inv (.aff x1 y1) (.aff x2 y2))) x3 y3 1 = _ from b1]; exact g19 _ _ _
   · rw [show fY (pX (addP inv (.aff x1 y1) (.aff x2 y2))) (pY (addP inv (.aff x1 y1) (.aff x2 y2))) (pZ (addP inv (.aff x1 y1) (.aff x2 y2))) x3 y3 1 = _ from b2]; exact g19 _ _ _
   · rw [show fZ (pX (addP inv (.aff x1 y1) (.aff x2 y2))) (pY (addP inv (.aff x1 y1) (.aff x2 y2))) (pZ (addP inv (.aff x1 y1) (.aff x2 y2))) x3 y3 1 = _ from b3]; exact g19 _ _ _
  · refine ⟨?_, ?_, ?_⟩
   · rw [show fX x1 y1 1 (pX (addP inv (.aff x2 y2) (.aff x3 y3))) (pY (addP inv (.aff x2 y2) (.aff x3 y3))) (pZ (addP inv (.aff x2 y2) (.aff x3 y3))) = _ from g1]; exact g19 _ _ _
   · rw [show fY x1 y1 1 (pX (addP inv (.aff x2 y2) (.aff x3 y3))) (pY (addP inv (.aff x2 y2) (.aff x3 y3))) (pZ (addP inv (.aff x2 y2) (.aff x3 y3))) = _ from g2]; exact g19 _ _ _
   · rw [show fZ x1 y1 1 (pX (addP inv (.aff x2 y2) (.aff x3 y3))) (pY (addP inv (.aff x2 y2) (.aff x3 y3))) (pZ (addP inv (.aff x2 y2) (.aff x3 y3))) = _ from g3]; exact g19 _ _ _
end
end Go.W

namespace Go.W
section
variable {P0 : Nat} [NeZero P0] {inv : Fin P0 -> Fin P0}
end
section
variable {P0 : Nat} [NeZero P0] {inv : Fin P0 -> Fin P0}
def mulP (inv : (Fin P0) -> (Fin P0)) : Nat -> Pt (Fin P0) -> Pt (Fin P0)
 | 0, _ => .inf
 | n + 1, p => addP inv p (mulP inv n p)
theorem mul_on (F : Fld P0 inv) {p : Pt (Fin P0)} (hp : On p) : ∀ n, On (mulP inv n p)
 | 0 => trivial
 | n + 1 => add_on F hp (mul_on F hp n)
theorem mulP_add (F : Fld P0 inv) {p : Pt (Fin P0)} (hp : On p) (m : Nat) : ∀ n, mulP inv (n + m) p = addP inv (mulP inv n p) (mulP inv m p)
 | 0 => by rw [Nat.zero_add]; rfl
 | n + 1 => by
  rw [Nat.add_right_comm]
  show addP inv p (mulP inv (n + m) p) = addP inv (addP inv p (mulP inv n p)) (mulP inv m p)
  rw [mulP_add F hp m n, add_assoc F hp (mul_on F hp n) (mul_on F hp m)]
theorem mulP_one (p : Pt (Fin P0)) : mulP inv 1 p = p := add_inf p
theorem add_four (F : Fld P0 inv) {a b c d : Pt (Fin P0)} (ha : On a) (hb : On b) (hc : On c) (hd : On d) : addP inv (addP inv a b) (addP inv c d) = addP inv (addP inv a c) (addP inv b d) := by
 rw [add_assoc F ha hb (add_on F hc hd), <- add_assoc F hb hc hd, add_comm F hb hc, add_assoc F hc hb hd, <- add_assoc F ha hc (add_on F hb hd)]
theorem mulP_two (F : Fld P0 inv) {p : Pt (Fin P0)} (hp : On p) (n : Nat) : mulP inv (2 * n) p = addP inv (mulP inv n p) (mulP inv n p) := by rw [Nat.two_mul, mulP_add F hp]
end
end Go.W

namespace Go.W
instance neP : NeZero pP := ⟨by decide⟩
abbrev Kp := Fin pP
def zP (X : Nat) : Kp := Fin.ofNat pP X
theorem zP_self (a : Kp) : zP a.val = a := by
 apply Fin.ext
 show a.val % pP = a.val
 exact Nat.mod_eq_of_lt a.isLt
theorem zP_eq {X Y : Nat} : zP X = zP Y ↔ X % pP = Y % pP := by
 constructor
 · intro h; exact congrArg Fin.val h
 · intro h; exact Fin.ext h
theorem zP_mod (X : Nat) : zP (X % pP) = zP X := zP_eq.2 (Nat.mod_mod _ _)
theorem zP_add (X Y : Nat) : zP (X + Y) = zP X + zP Y := by
 apply Fin.ext
 show (X + Y) % pP = (X % pP + Y % pP) % pP
 exact Nat.add_mod _ _ _
theorem zP_mul (X Y : Nat) : zP (X * Y) = zP X * zP Y := by
 apply Fin.ext
 show (X * Y) % pP = (X % pP * (Y % pP)) % pP
 exact Nat.mul_mod _ _ _
theorem zP_sub (X Y : Nat) : zP (X + (pP - Y % pP)) = zP X - zP Y := by
 apply Fin.ext
 show (X + (pP - Y % pP)) % pP = (pP - Y % pP + X % pP) % pP
 rw [Nat.add_comm, Nat.add_mod_mod]
theorem zP_zero : zP 0 = 0 := rfl
theorem zP_one : zP 1 = 1 := rfl
noncomputable def invP (a : Kp) : Kp := zP (powN 0 a.val (pP - 2))
theorem prime_pos : 0 < pP ∧ 1 < pP := by decide
theorem val_ne {a : Kp} (h : a ≠ 0) : a.val % pP ≠ 0 := by
 intro e
 apply h
 rw [<- zP_self a, <- zP_zero]
 exact zP_eq.2 (by rw [e, Nat.zero_mod])
theorem fermat {A : Nat} (h : A % pP ≠ 0) : A ^ (pP - 1) % pP = 1 := by
 have := genP.inv h
 rw [show pP - 1 = (pP - 2) + 1 from by have := prime_pos; omega, Nat.pow_succ, Nat.mul_comm]
 exact this
def thP : Nat := 38597363079105398474523661669562635951089994888546854679819194669302944890554
theorem thP_eq : 3 * thP = pP - 1 := by decide
theorem seven_not_cube : powF 256 (pP - 7) thP pP ≠ 1 := by
 have h : Nat.beq (powF 256 (pP - 7) thP pP) 1 = false := by kernel_rfl
 intro e; rw [e] at h; simp at h
theorem no_cube (X : Nat) : (X * X * X + 7) % pP ≠ 0 := by
 intro h
 have h7 : X * X * X % pP = pP - 7 := by
  have e := Nat.div_add_mod (X * X * X) pP
  have hlt := Nat.mod_lt (X * X * X) prime_pos.1
  rw [Nat.add_mod] at h
  have h77 : 7 % pP = 7 := by decide
  rw [h77] at h
  have big : 7 < pP := by decide
  generalize X * X * X % pP = r at *
  by_cases hr : r + 7 < pP
  · rw [Nat.mod_eq_of_lt hr] at h; omega
  · have : r + 7 - pP = 0 := by
    have h2 : (r + 7) % pP = r + 7 - pP := by rw [Nat.mod_eq_sub_mod (by omega), Nat.mod_eq_of_lt (by omega)]
    omega
   omega
 have hX : X % pP ≠ 0 := by
  intro hx
  have : X * X * X % pP = 0 := by rw [Nat.mul_mod, hx, Nat.mul_zero, Nat.zero_mod]
  rw [this] at h7
  have big : 7 < pP := by decide
  omega
 have hf := fermat hX
 rw [<- thP_eq, Nat.pow_mul] at hf
 have e3 : X ^ 3 = X * X * X := by rw [Nat.pow_succ, Nat.pow_succ, Nat.pow_succ, Nat.pow_zero, Nat.one_mul]
 rw [e3, Nat.pow_mod, h7, <- powF_eq 256 _ _ _ (show thP < 2 ^ 256 by decide)] at hf
 exact seven_not_cube hf
theorem fldP : Fld pP invP where
 inv := by
  intro a ha
  have h := inv_ok (w := 0) rfl (val_ne ha)
  have e : a * invP a = zP (a.val * powN 0 a.val (pP - 2)) := by rw [zP_mul, zP_self]; rfl
  rw [e, <- zP_one]
  refine zP_eq.2 ?_
  rw [show (1 : Nat) % pP = 1 from Nat.mod_eq_of_lt prime_pos.2]
  exact h
 one := by
  intro h
  have := congrArg Fin.val h
  have e1 : (1 : Kp).val = 1 := by decide
  have e0 : (0 : Kp).val = 0 := by decide
  rw [e1, e0] at this; omega
 two := by
  intro h
  have := congrArg Fin.val h
  have e1 : (2 : Kp).val = 2 := by decide
  have e0 : (0 : Kp).val = 0 := by decide
  rw [e1, e0] at this; omega
 tor := by
  intro x y h hy
  subst hy
  have e : zP (x.val * x.val * x.val + 7) = zP 0 := by
   rw [zP_add, zP_mul, zP_mul, zP_self]
   have : zP 7 = 7 := rfl
   rw [this, <- h, zP_zero]; exact g27 _
  exact no_cube x.val (by have := zP_eq.1 e; rw [Nat.zero_mod] at this; exact this)
def gXn : Nat := 55066263022277343669578718895168534326250603453777594175500187360389116729240
def gYn : Nat := 32670510020758816978083085130507043184471273380659243275938904335757337482424
def Gp : Pt Kp := .aff (zP gXn) (zP gYn)
theorem G_on : On Gp := by
 show zP gYn * zP gYn = zP gXn * zP gXn * zP gXn + 7
 rw [<- zP_mul, <- zP_mul, <- zP_mul, show (7 : Kp) = zP 7 from rfl, <- zP_add]
 refine zP_eq.2 ?_
 decide +kernel
abbrev N3 := Nat × Nat × Nat
end Go.W

namespace Go.W
section
variable {P0 : Nat} [NeZero P0]
theorem j1 (x b : (Fin P0)) : (x + b) * (x + b) - x * x - b * b = 2 * (x * b) := by grind
theorem j2 (k a b z : (Fin P0)) : (k * (2 * b) * (z * z * (z * z))) * (k * (2 * b) * (z * z * (z * z))) - (4 * (a * (z * z) * (b * (z * z * z) * (b * (z * z * z)))) + 4 * (a * (z * z) * (b * (z * z * z) * (b * (z * z * z))))) =
  (k * k - a - a) * ((b * (z * z * z) * z + b * (z * z * z) * z) * (b * (z * z * z) * z + b * (z * z * z) * z)) := by grind
theorem j3 (a z : (Fin P0)) : a * (z * z) * (a * (z * z)) + a * (z * z) * (a * (z * z)) + a * (z * z) * (a * (z * z)) = 3 * (a * a) * (z * z * (z * z)) := by grind
theorem j4 (k a b z : (Fin P0)) : (k * (2 * b) * (z * z * (z * z))) * (4 * (a * (z * z) * (b * (z * z * z) * (b * (z * z * z)))) - (k * k - a - a) * ((b * (z * z * z) * z + b * (z * z * z) * z) * (b * (z * z * z) * z + b * (z * z * z) * z)))
  - 8 * (b * (z * z * z) * (b * (z * z * z)) * (b * (z * z * z) * (b * (z * z * z)))) =
  (k * (a - (k * k - a - a)) - b) * ((b * (z * z * z) * z + b * (z * z * z) * z) * (b * (z * z * z) * z + b * (z * z * z) * z) * (b * (z * z * z) * z + b * (z * z * z) * z)) := by grind
theorem j5 (c : (Fin P0)) : c + c + (c + c) + (c + c + (c + c)) = 8 * c := by grind
theorem j6 (c : (Fin P0)) : 2 * c + 2 * c = 4 * c := by grind
theorem j7 (b z : (Fin P0)) : b * (z * z * z) * z + b * (z * z * z) * z = 2 * (b * (z * (z * (z * z)))) := by grind
theorem j8 (a1 a2 p q : (Fin P0)) : a2 * (q * q) * (p * p) - a1 * (p * p) * (q * q) = (a2 - a1) * ((p * q) * (p * q)) := by grind
theorem j9 (b1 b2 p q : (Fin P0)) : b2 * (q * q * q) * (p * p * p) - b1 * (p * p * p) * (q * q * q) = (b2 - b1) * ((p * q) * ((p * q) * (p * q))) := by grind
theorem j10 (k d a1 a2 Z : (Fin P0)) (h : d = a2 - a1) : (k * d * (Z * (Z * Z))) * (k * d * (Z * (Z * Z))) - d * (Z * Z) * (d * (Z * Z)) * (d * (Z * Z)) - (a1 * (Z * Z) * (d * (Z * Z) * (d * (Z * Z))) + a1 * (Z * Z) * (d * (Z * Z) * (d * (Z * Z)))) =
  (k * k - a1 - a2) * ((d * (Z * Z) * Z) * (d * (Z * Z) * Z)) := by subst h; grind
theorem j11 (k d a1 x b1 Z : (Fin P0)) : (k * d * (Z * (Z * Z))) * (a1 * (Z * Z) * (d * (Z * Z) * (d * (Z * Z))) - x * ((d * (Z * Z) * Z) * (d * (Z * Z) * Z))) - b1 * (Z * (Z * Z)) * (d * (Z * Z) * (d * (Z * Z)) * (d * (Z * Z))) =
  (k * (a1 - x) - b1) * ((d * (Z * Z) * Z) * (d * (Z * Z) * Z) * (d * (Z * Z) * Z)) := by grind
theorem j12 (a p q : (Fin P0)) : a * (p * p) * (q * q) = a * ((p * q) * (p * q)) := by grind
theorem j13 (a p q : (Fin P0)) : a * (p * p * p) * (q * q * q) = a * ((p * q) * ((p * q) * (p * q))) := by grind
theorem j15 (a b : (Fin P0)) (h : a = b) : a - b = 0 := by grind
end
def Jr {P0 : Nat} [NeZero P0] (p : Pt (Fin P0)) (x y z : (Fin P0)) : Prop := (z = 0 ∧ p = .inf) ∨ (z ≠ 0 ∧ ∃ a b, p = .aff a b ∧ x = a * (z * z) ∧ y = b * (z * z * z))
section
variable {P0 : Nat} [NeZero P0] {inv : Fin P0 -> Fin P0}
theorem jr_down (F : Fld P0 inv) {p : Pt (Fin P0)} {x y z : (Fin P0)} (h : Jr p x y z) (hz : z ≠ 0) : p = .aff (x * (inv z * inv z)) (y * (inv z * inv z * inv z)) := by
 rcases h with ⟨e, _⟩ | ⟨_, a, b, rfl, rfl, rfl⟩
 · exact absurd e hz
 · have h1 := F.inv z hz
  have e1 : a * (z * z) * (inv z * inv z) = a * ((z * inv z) * (z * inv z)) := by grind
  have e2 : b * (z * z * z) * (inv z * inv z * inv z) = b * ((z * inv z) * ((z * inv z) * (z * inv z))) := by grind
  rw [e1, e2, h1, g10, g10, g10, g10]
theorem jr_inf {p : Pt (Fin P0)} {x y z : (Fin P0)} (h : Jr p x y z) : z = 0 ↔ p = .inf := by
 rcases h with ⟨h1, h2⟩ | ⟨h1, a, b, rfl, _, _⟩
 · exact ⟨fun _ => h2, fun _ => h1⟩
 · exact ⟨fun e => absurd e h1, fun e => by cases e⟩
end
section
variable {P0 : Nat} [NeZero P0] {inv : Fin P0 -> Fin P0}
def twX (x y : (Fin P0)) : (Fin P0) := (x * x + x * x + x * x) * (x * x + x * x + x * x) - (((x + y * y) * (x + y * y) - x * x - y * y * (y * y) + ((x + y * y) * (x + y * y) - x * x - y * y * (y * y))) + ((x + y * y) * (x + y * y) - x * x - y * y * (y * y) + ((x + y * y) * (x + y * y) - x * x - y * y * (y * y))))
def twY (x y : (Fin P0)) : (Fin P0) := (x * x + x * x + x * x) * (((x + y * y) * (x + y * y) - x * x - y * y * (y * y) + ((x + y * y) * (x + y * y) - x * x - y * y * (y * y))) - twX x y) -
 (y * y * (y * y) + y * y * (y * y) + (y * y * (y * y) + y * y * (y * y)) + (y * y * (y * y) + y * y * (y * y) + (y * y * (y * y) + y * y * (y * y))))
def twZ (y z : (Fin P0)) : (Fin P0) := y * z + y * z
theorem jr_twice (F : Fld P0 inv) {p : Pt (Fin P0)} (hp : On p) {x y z : (Fin P0)} (h : Jr p x y z) (hz : z ≠ 0) : Jr (addP inv p p) (twX x y) (twY x y) (twZ y z) ∧ y ≠ 0 := by
 rcases h with ⟨h1, _⟩ | ⟨_, a, b, rfl, rfl, rfl⟩
 · exact absurd h1 hz
 · have hb := F.tor _ _ hp
  have hy : b * (z * z * z) ≠ 0 := F.mul_ne hb (F.mul_ne (F.mul_ne hz hz) hz)
  refine ⟨.inr ⟨?_, ?_⟩, hy⟩
  · unfold twZ; rw [j7]
   exact F.mul_ne F.two (F.mul_ne hb (F.mul_ne hz (F.mul_ne hz (F.mul_ne hz hz))))
  · have hk := tan_k F (x := a) (F.mul_ne F.two hb)
   have hs : addP inv (.aff a b) (.aff a b) = line (3 * (a * a) * inv (2 * b)) a b a := by
    rw [addP_aff, if_pos rfl, if_neg ?_]
    intro e
    have : 2 * b = 0 := by rw [<- e]; grind
    exact F.mul_ne F.two hb this
   rw [hs]
   generalize 3 * (a * a) * inv (2 * b) = k at hk
   refine ⟨_, _, rfl, ?_, ?_⟩
   · unfold twX twZ
    rw [j1, j6, j3, <- hk]; exact j2 k a b z
   · unfold twY twX twZ
    rw [j1, j6, j3, j5, <- hk, j2]; exact j4 k a b z
def plU (x1 z2 : (Fin P0)) : (Fin P0) := x1 * (z2 * z2)
def plS (y1 z2 : (Fin P0)) : (Fin P0) := y1 * (z2 * z2 * z2)
def plX (u h r : (Fin P0)) : (Fin P0) := r * r - h * h * h - (u * (h * h) + u * (h * h))
def plY (u s h r : (Fin P0)) : (Fin P0) := r * (u * (h * h) - plX u h r) - s * (h * h * h)
def plZ (h z1 z2 : (Fin P0)) : (Fin P0) := h * (z1 * z2)
theorem jr_plus (F : Fld P0 inv) {p q : Pt (Fin P0)} (hp : On p) (hq : On q) {x1 y1 z1 x2 y2 z2 : (Fin P0)} (h1 : Jr p x1 y1 z1) (h2 : Jr q x2 y2 z2) (n1 : z1 ≠ 0) (n2 : z2 ≠ 0) :
  (plU x2 z1 - plU x1 z2 ≠ 0 -> Jr (addP inv p q) (plX (plU x1 z2) (plU x2 z1 - plU x1 z2) (plS y2 z1 - plS y1 z2)) (plY (plU x1 z2) (plS y1 z2) (plU x2 z1 - plU x1 z2) (plS y2 z1 - plS y1 z2)) (plZ (plU x2 z1 - plU x1 z2) z1 z2)) ∧
  (plU x2 z1 - plU x1 z2 = 0 -> plS y2 z1 - plS y1 z2 ≠ 0 -> addP inv p q = .inf) ∧
  (plU x2 z1 - plU x1 z2 = 0 -> plS y2 z1 - plS y1 z2 = 0 -> p = q) := by
 rcases h1 with ⟨e, _⟩ | ⟨_, a1, b1, rfl, rfl, rfl⟩
 · exact absurd e n1
 rcases h2 with ⟨e, _⟩ | ⟨_, a2, b2, rfl, rfl, rfl⟩
 · exact absurd e n2
 have nZ : z1 * z2 ≠ 0 := F.mul_ne n1 n2
 have eh : plU (a2 * (z2 * z2)) z1 - plU (a1 * (z1 * z1)) z2 = (a2 - a1) * ((z1 * z2) * (z1 * z2)) := j8 a1 a2 z1 z2
 have er : plS (b2 * (z2 * z2 * z2)) z1 - plS (b1 * (z1 * z1 * z1)) z2 = (b2 - b1) * ((z1 * z2) * ((z1 * z2) * (z1 * z2))) := j9 b1 b2 z1 z2
 have eu : plU (a1 * (z1 * z1)) z2 = a1 * ((z1 * z2) * (z1 * z2)) := j12 a1 z1 z2
 have es : plS (b1 * (z1 * z1 * z1)) z2 = b1 * ((z1 * z2) * ((z1 * z2) * (z1 * z2))) := j13 b1 z1 z2
 rw [eh, er]
 have nZ2 := F.mul_ne nZ nZ
 refine ⟨fun hne => ?_, fun h0 hr => ?_, fun h0 hr => ?_⟩
 · have hd : a2 - a1 ≠ 0 := fun e => hne (by rw [e]; grind)
  have hk := chord_k F (y1 := b1) (y2 := b2) hd
  rw [addP_aff, if_neg (fun e => hd (j15 _ _ e.symm))]
  generalize (b2 - b1) * inv (a2 - a1) = k at hk
  refine .inr ⟨F.mul_ne hne nZ, _, _, rfl, ?_, ?_⟩
  · rw [eu, <- hk]; exact j10 k (a2 - a1) a1 a2 (z1 * z2) rfl
  · unfold plY
   rw [eu, es, <- hk]
   have := j10 k (a2 - a1) a1 a2 (z1 * z2) rfl
   unfold plX
   rw [this]
   exact j11 k (a2 - a1) a1 (k * k - a1 - a2) b1 (z1 * z2)
 · have hd : a2 - a1 = 0 := (F.dom h0).resolve_right nZ2
  have ha : a1 = a2 := (g6 hd).symm
  subst ha
  rw [addP_aff, if_pos rfl]
  rcases sq_eq F hp hq with h | h
  · rw [if_pos h]
  · subst h
   exact absurd (by rw [j15 b1 b1 rfl]; grind) hr
 · have hd : a2 - a1 = 0 := (F.dom h0).resolve_right nZ2
  have hd2 : b2 - b1 = 0 := (F.dom hr).resolve_right (F.mul_ne nZ nZ2)
  rw [g6 hd, g6 hd2]
end
end Go.W

namespace Go.W
abbrev RP := Bool × Nat × Nat
def ptV (r : RP) : Value := .agg #[.bool r.1, u64 (dig r.2.1 0), u64 (dig r.2.1 1), u64 (dig r.2.1 2), u64 (dig r.2.1 3), u64 (dig r.2.2 0), u64 (dig r.2.2 1), u64 (dig r.2.2 2), u64 (dig r.2.2 3)]
def isBl : Value -> Bool
 | .bool _ => true
 | _ => false
def isPtL : List Value -> Bool
 | b :: r => isBl b && Nat.beq r.length 8 && r.all isU64
 | [] => false
def isPt (v : Value) : Bool := aggK v isPtL false
def hdB : List Value -> Bool
 | .bool b :: _ => b
 | _ => false
def unPt (v : Value) : RP := (hdB v.cells.toList, limbs ((v.cells.toList.drop 1).take 4), limbs ((v.cells.toList.drop 5).take 4))
def okR (r : RP) : Prop := r.2.1 < 2 ^ 256 ∧ r.2.2 < 2 ^ 256
theorem limbs4 (X : Nat) : limbs [u64 (dig X 0), u64 (dig X 1), u64 (dig X 2), u64 (dig X 3)] = X % 2 ^ 256 := unnum_num X
theorem unPt_ptV {r : RP} (h : okR r) : unPt (ptV r) = r := by
 obtain ⟨i, X, Y⟩ := r
 show (i, limbs [u64 (dig X 0), u64 (dig X 1), u64 (dig X 2), u64 (dig X 3)], limbs [u64 (dig Y 0), u64 (dig Y 1), u64 (dig Y 2), u64 (dig Y 3)]) = _
 rw [limbs4, limbs4, Nat.mod_eq_of_lt h.1, Nat.mod_eq_of_lt h.2]
theorem isPt_ptV (r : RP) : isPt (ptV r) = true := by
 show (true && Nat.beq 8 8 && [u64 _, u64 _, u64 _, u64 _, u64 _, u64 _, u64 _, u64 _].all isU64) = true
 rw [List.all_cons, List.all_cons, List.all_cons, List.all_cons, List.all_cons, List.all_cons, List.all_cons, List.all_cons, isU64_u64 (dig_lt _ _), isU64_u64 (dig_lt _ _), isU64_u64 (dig_lt _ _), isU64_u64 (dig_lt _ _), isU64_u64 (dig_lt _ _), isU64_u64 (dig_lt _ _), isU64_u64 (dig_lt _ _), isU64_u64 (dig_lt _ _)]
 rfl
theorem isPt_some {v : Value} (h : isPt v = true) : ∃ r, okR r ∧ v = ptV r := by
 unfold isPt aggK at h
 split at h
 · rename_i cs
  obtain ⟨l, hc⟩ : ∃ l, cs = List.toArray l := ⟨cs.toList, by simp⟩
  subst hc
  rw [List.toList_toArray] at h
  obtain ⟨b, r, rfl⟩ : ∃ b r, l = b :: r := by
   cases l with
   | nil => simp [isPtL] at h
   | cons b r => exact ⟨b, r, rfl⟩
  simp only [isPtL, Bool.and_eq_true] at h
  obtain ⟨⟨hb, hl⟩, hall⟩ := h
  have hl : r.length = 8 := nbeq.1 hl
  obtain ⟨i, rfl⟩ : ∃ i, b = .bool i := by cases b <;> first | exact ⟨_, rfl⟩ | simp [isBl] at hb
  match r, hl, hall with
  | [x0, x1, x2, x3, y0, y1, y2, y3], _, hall =>
   simp only [Bool.and_eq_true, List.all_cons, List.all_nil, Bool.and_true] at hall
   obtain ⟨h0, h1, h2, h3, k0, k1, k2, k3⟩ := hall
   obtain ⟨a0, l0, rfl⟩ := isU64_some h0
   obtain ⟨a1, l1, rfl⟩ := isU64_some h1
   obtain ⟨a2, l2, rfl⟩ := isU64_some h2
   obtain ⟨a3, l3, rfl⟩ := isU64_some h3
   obtain ⟨b0, m0, rfl⟩ := isU64_some k0
   obtain ⟨b1, m1, rfl⟩ := isU64_some k1
   obtain ⟨b2, m2, rfl⟩ := isU64_some k2
   obtain ⟨b3, m3, rfl⟩ := isU64_some k3
   refine ⟨(i, hor a0 a1 a2 a3, hor b0 b1 b2 b3), ⟨hor_lt l0 l1 l2 l3, hor_lt m0 m1 m2 m3⟩, ?_⟩
   have e1 := num_hor l0 l1 l2 l3 0
   have e2 := num_hor m0 m1 m2 m3 0
   rw [Nat.mul_zero, Nat.add_zero] at e1 e2
   simp only [num, numd, Value.agg.injEq, Array.mk.injEq, List.cons.injEq, and_true] at e1 e2
   unfold ptV
   simp only [e1.1, e1.2.1, e1.2.2.1, e1.2.2.2, e2.1, e2.2.1, e2.2.2.1, e2.2.2.2]
 · simp at h
def jacV (t : N3) : Value := .agg #[u64 (dig t.1 0), u64 (dig t.1 1), u64 (dig t.1 2), u64 (dig t.1 3), u64 (dig t.2.1 0), u64 (dig t.2.1 1), u64 (dig t.2.1 2), u64 (dig t.2.1 3), u64 (dig t.2.2 0), u64 (dig t.2.2 1), u64 (dig t.2.2 2), u64 (dig t.2.2 3)]
def isJac (v : Value) : Bool := isNums 12 v
def unJ (v : Value) : N3 := (limbs (v.cells.toList.take 4), limbs ((v.cells.toList.drop 4).take 4), limbs ((v.cells.toList.drop 8).take 4))
def okJ (t : N3) : Prop := t.1 < 2 ^ 256 ∧ t.2.1 < 2 ^ 256 ∧ t.2.2 < 2 ^ 256
theorem unJ_jacV {t : N3} (h : okJ t) : unJ (jacV t) = t := by
 obtain ⟨X, Y, Z⟩ := t
 show (limbs [u64 (dig X 0), u64 (dig X 1), u64 (dig X 2), u64 (dig X 3)], limbs [u64 (dig Y 0), u64 (dig Y 1), u64 (dig Y 2), u64 (dig Y 3)], limbs [u64 (dig Z 0), u64 (dig Z 1), u64 (dig Z 2), u64 (dig Z 3)]) = _
 rw [limbs4, limbs4, limbs4, Nat.mod_eq_of_lt h.1, Nat.mod_eq_of_lt h.2.1, Nat.mod_eq_of_lt h.2.2]
theorem isJac_jacV (t : N3) : isJac (jacV t) = true := by
 refine isNums_of [u64 _, u64 _, u64 _, u64 _, u64 _, u64 _, u64 _, u64 _, u64 _, u64 _, u64 _, u64 _] rfl ?_
 simp only [List.all_cons, List.all_nil, isU64_u64 (dig_lt _ _), Bool.and_self]
theorem isJac_some {v : Value} (h : isJac v = true) : ∃ t, okJ t ∧ v = jacV t := by
 obtain ⟨l, rfl, hl, ha⟩ := isNums_some h
 match l, hl, ha with
 | [x0, x1, x2, x3, y0, y1, y2, y3, z0, z1, z2, z3], _, ha =>
  simp only [List.all_cons, List.all_nil, Bool.and_true, Bool.and_eq_true] at ha
  obtain ⟨h0, h1, h2, h3, k0, k1, k2, k3, g0, g1, g2, g3⟩ := ha
  obtain ⟨a0, l0, rfl⟩ := isU64_some h0
  obtain ⟨a1, l1, rfl⟩ := isU64_some h1
  obtain ⟨a2, l2, rfl⟩ := isU64_some h2
  obtain ⟨a3, l3, rfl⟩ := isU64_some h3
  obtain ⟨b0, m0, rfl⟩ := isU64_some k0
  obtain ⟨b1, m1, rfl⟩ := isU64_some k1
  obtain ⟨b2, m2, rfl⟩ := isU64_some k2
  obtain ⟨b3, m3, rfl⟩ := isU64_some k3
  obtain ⟨c0, n0, rfl⟩ := isU64_some g0
  obtain ⟨c1, n1, rfl⟩ := isU64_some g1
  obtain ⟨c2, n2, rfl⟩ := isU64_some g2
  obtain ⟨c3, n3, rfl⟩ := isU64_some g3
  refine ⟨(hor a0 a1 a2 a3, hor b0 b1 b2 b3, hor c0 c1 c2 c3), ⟨hor_lt l0 l1 l2 l3, hor_lt m0 m1 m2 m3, hor_lt n0 n1 n2 n3⟩, ?_⟩
  have e1 := num_hor l0 l1 l2 l3 0
  have e2 := num_hor m0 m1 m2 m3 0
  have e3 := num_hor n0 n1 n2 n3 0
  rw [Nat.mul_zero, Nat.add_zero] at e1 e2 e3
  simp only [num, numd, Value.agg.injEq, Array.mk.injEq, List.cons.injEq, and_true] at e1 e2 e3
  unfold jacV
  simp only [e1.1, e1.2.1, e1.2.2.1, e1.2.2.2, e2.1, e2.2.1, e2.2.2.1, e2.2.2.2, e3.1, e3.2.1, e3.2.2.1, e3.2.2.2]
def mp (a b : Nat) : Nat := fmulN 0 a b
def ap (a b : Nat) : Nat := faddN 0 a b
def sp (a b : Nat) : Nat := fsubN 0 a b
theorem mp_eq (a b : Nat) : mp a b = a * b % pP := fmulN_ok ok0 a b
theorem ap_eq (a b : Nat) : ap a b = (a + b) % pP := faddN_ok ok0 a b
theorem sp_eq (a b : Nat) : sp a b = (a + (pP - b % pP)) % pP := fsubN_ok ok0 a b
theorem z_mp (a b : Nat) : zP (mp a b) = zP a * zP b := by rw [mp_eq, zP_mod, zP_mul]
theorem z_ap (a b : Nat) : zP (ap a b) = zP a + zP b := by rw [ap_eq, zP_mod, zP_add]
theorem z_sp (a b : Nat) : zP (sp a b) = zP a - zP b := by rw [sp_eq, zP_mod, zP_sub]
theorem mp_lt (a b : Nat) : mp a b < pP := by rw [mp_eq]; exact Nat.mod_lt _ prime_pos.1
theorem ap_lt (a b : Nat) : ap a b < pP := by rw [ap_eq]; exact Nat.mod_lt _ prime_pos.1
theorem sp_lt (a b : Nat) : sp a b < pP := by rw [sp_eq]; exact Nat.mod_lt _ prime_pos.1
def ckR (r : RP) : Bool :=
 if r.1 = true then decide (r.2.1 = 0 ∧ r.2.2 = 0) else decide (r.2.1 < pP ∧ r.2.2 < pP ∧ mp r.2.2 r.2.2 = ap (mp (mp r.2.1 r.2.1) r.2.1) 7)
def toPt (r : RP) : Pt Kp := if r.1 = true then .inf else .aff (zP r.2.1) (zP r.2.2)
def ofPt : Pt Kp -> RP
 | .inf => (true, 0, 0)
 | .aff x y => (false, x.val, y.val)
theorem zP_inj {X Y : Nat} (hX : X < pP) (hY : Y < pP) (h : zP X = zP Y) : X = Y := by
 have := zP_eq.1 h
 rwa [Nat.mod_eq_of_lt hX, Nat.mod_eq_of_lt hY] at this
theorem zP_val_lt {X : Nat} (h : X < pP) : (zP X).val = X := Nat.mod_eq_of_lt h
theorem ck_of {r : RP} (h : ckR r = true) : On (toPt r) ∧ ofPt (toPt r) = r := by
 obtain ⟨i, X, Y⟩ := r
 unfold ckR at h
 cases i with
 | true =>
  rw [if_pos rfl] at h
  have h := of_decide_eq_true h
  simp only at h
  obtain ⟨rfl, rfl⟩ := h
  exact ⟨trivial, rfl⟩
 | false =>
  rw [if_neg Bool.false_ne_true] at h
  have h := of_decide_eq_true h
  simp only at h
  obtain ⟨hX, hY, he⟩ := h
  constructor
  · show zP Y * zP Y = zP X * zP X * zP X + 7
   have := congrArg zP he
   rw [z_mp, z_ap, z_mp, z_mp] at this
   exact this
  · show (false, (zP X).val, (zP Y).val) = (false, X, Y)
   rw [zP_val_lt hX, zP_val_lt hY]
theorem toPt_ofPt (p : Pt Kp) : toPt (ofPt p) = p := by
 cases p with
 | inf => rfl
 | aff x y =>
  show Pt.aff (zP x.val) (zP y.val) = _
  rw [zP_self, zP_self]
theorem ck_ofPt {p : Pt Kp} (h : On p) : ckR (ofPt p) = true := by
 cases p with
 | inf => rfl
 | aff x y =>
  show decide (x.val < pP ∧ y.val < pP ∧ mp y.val y.val = ap (mp (mp x.val x.val) x.val) 7) = true
  refine decide_eq_true ⟨x.isLt, y.isLt, zP_inj (mp_lt _ _) (ap_lt _ _) ?_⟩
  rw [z_mp, z_ap, z_mp, z_mp, zP_self, zP_self]
  exact h
theorem okR_ofPt (p : Pt Kp) : okR (ofPt p) := by
 have hp : pP < 2 ^ 256 := by decide
 cases p with
 | inf => exact ⟨by decide, by decide⟩
 | aff x y => exact ⟨Nat.lt_trans x.isLt hp, Nat.lt_trans y.isLt hp⟩
def upJ (r : RP) : N3 := if r.1 = true then (1, 1, 0) else (r.2.1, r.2.2, 1)
def dnR3 (t : N3) : RP := if t.2.2 = 0 then (true, 0, 0) else
 (false, mp t.1 (mp (powN 0 t.2.2 (pP - 2)) (powN 0 t.2.2 (pP - 2))), mp t.2.1 (mp (mp (powN 0 t.2.2 (pP - 2)) (powN 0 t.2.2 (pP - 2))) (powN 0 t.2.2 (pP - 2))))
structure J3 (p : Pt Kp) (t : N3) : Prop where
 jr : Jr p (zP t.1) (zP t.2.1) (zP t.2.2)
 x : t.1 < pP
 y : t.2.1 < pP
 z : t.2.2 < pP
theorem zP_ne {X : Nat} (h : X < pP) : X ≠ 0 ↔ zP X ≠ 0 := by
 constructor
 · intro h1 h2; exact h1 (zP_inj h prime_pos.1 (h2.trans zP_zero.symm))
 · rintro h1 rfl; exact h1 zP_zero
theorem J3_inf : J3 .inf (1, 1, 0) := ⟨.inl ⟨rfl, rfl⟩, prime_pos.2, prime_pos.2, prime_pos.1⟩
theorem J3_up {r : RP} (h : ckR r = true) : J3 (toPt r) (upJ r) := by
 obtain ⟨i, X, Y⟩ := r
 cases i with
 | true => exact J3_inf
 | false =>
  unfold ckR at h
  rw [if_neg Bool.false_ne_true] at h
  obtain ⟨hX, hY, _⟩ := of_decide_eq_true h
  refine ⟨.inr ⟨?_, zP X, zP Y, rfl, ?_, ?_⟩, hX, hY, prime_pos.2⟩
  · exact (zP_ne prime_pos.2).1 (by decide)
  · show zP X = zP X * (zP 1 * zP 1)
   rw [zP_one, g10, g10]
  · show zP Y = zP Y * (zP 1 * zP 1 * zP 1)
   rw [zP_one, g10, g10, g10]
theorem J3_dn {p : Pt Kp} {t : N3} (h : J3 p t) : dnR3 t = ofPt p := by
 unfold dnR3
 by_cases hz : t.2.2 = 0
 · rw [if_pos hz]
  have : p = .inf := (jr_inf h.jr).1 (by rw [hz]; rfl)
  subst this; rfl
 · rw [if_neg hz, jr_down fldP h.jr ((zP_ne h.z).1 hz)]
  have hi : invP (zP t.2.2) = zP (powN 0 t.2.2 (pP - 2)) := by unfold invP; rw [zP_val_lt h.z]
  show _ = (false, Fin.val _, Fin.val _)
  rw [hi, <- z_mp, <- z_mp, <- z_mp, <- z_mp, zP_val_lt (mp_lt _ _), zP_val_lt (mp_lt _ _)]
end Go.W

namespace Go.W
def mv (a b : Value) : Value := num (mp (unnum a) (unnum b))
def av (a b : Value) : Value := num (ap (unnum a) (unnum b))
def sv (a b : Value) : Value := num (sp (unnum a) (unnum b))
def MvF : List Value -> Option (Bool × Value)
 | [x, y] => some (isNum x && isNum y, mv x y)
 | _ => none
def AvF : List Value -> Option (Bool × Value)
 | [x, y] => some (isNum x && isNum y, av x y)
 | _ => none
def SvF : List Value -> Option (Bool × Value)
 | [x, y] => some (isNum x && isNum y, sv x y)
 | _ => none
def lt6 (X : Nat) : Prop := X < 2 ^ 256
theorem mp_l (a b : Nat) : lt6 (mp a b) := Nat.lt_trans (mp_lt a b) (by decide)
theorem ap_l (a b : Nat) : lt6 (ap a b) := Nat.lt_trans (ap_lt a b) (by decide)
theorem sp_l (a b : Nat) : lt6 (sp a b) := Nat.lt_trans (sp_lt a b) (by decide)
theorem pow_l (a : Nat) : lt6 (powN 0 a (pP - 2)) := powN_lt (by decide)
section
variable {α : Type}
def m2 (a b : Value) (k : Value -> Option α) : Option α := r2 a b (k (mv a b))
def a2 (a b : Value) (k : Value -> Option α) : Option α := r2 a b (k (av a b))
def s2 (a b : Value) (k : Value -> Option α) : Option α := r2 a b (k (sv a b))
theorem m2_num {X Y : Nat} (hX : lt6 X) (hY : lt6 Y) (k : Value -> Option α) : m2 (num X) (num Y) k = k (num (mp X Y)) := by unfold m2 mv; rw [r2_num, unnum_lt hX, unnum_lt hY]
theorem a2_num {X Y : Nat} (hX : lt6 X) (hY : lt6 Y) (k : Value -> Option α) : a2 (num X) (num Y) k = k (num (ap X Y)) := by unfold a2 av; rw [r2_num, unnum_lt hX, unnum_lt hY]
theorem s2_num {X Y : Nat} (hX : lt6 X) (hY : lt6 Y) (k : Value -> Option α) : s2 (num X) (num Y) k = k (num (sp X Y)) := by unfold s2 sv; rw [r2_num, unnum_lt hX, unnum_lt hY]
end
theorem eq0_num {X : Nat} (h : lt6 X) : eqV (num X) (num 0) = decide (X = 0) := by rw [eqV_num, Nat.zero_mod, Nat.mod_eq_of_lt h]
def jac3 (a b c : Value) : Value := .agg (a.cells.toList ++ (b.cells.toList ++ c.cells.toList)).toArray
theorem jac3_num (X Y Z : Nat) : jac3 (num X) (num Y) (num Z) = jacV (X, Y, Z) := rfl
def pt3 (i : Bool) (x y : Value) : Value := .agg (.bool i :: (x.cells.toList ++ y.cells.toList)).toArray
theorem pt3_num (i : Bool) (X Y : Nat) : pt3 i (num X) (num Y) = ptV (i, X, Y) := rfl
def CkF : List Value -> Option (Bool × Value)
 | [p] => some (isPt p, .bool (ckR (unPt p)))
 | _ => none
theorem cI_lt {X Y : Nat} (hX : X < 2 ^ 256) (hY : Y < 2 ^ 256) : decide (cI (num X) (num Y) < 0) = decide (X < Y) := by
 rw [cI_num hX hY]; unfold cmpI
 by_cases h : X < Y
 · rw [if_pos h, decide_eq_true h]; rfl
 · rw [if_neg h, decide_eq_false h]; split <;> rfl
def GF : List Value -> Option (Bool × Value)
 | [] => some (true, ptV (false, gXn, gYn))
 | _ => none
def ngR (r : RP) : RP := if r.1 = true then r else (false, r.2.1, sp 0 r.2.2)
end Go.W

namespace Go.W
noncomputable def hide {α : Type} (a : α) : α := Classical.choose (⟨a, rfl⟩ : ∃ x : α, x = a)
theorem hide_eq {α : Type} (a : α) : hide a = a := Classical.choose_spec (⟨a, rfl⟩ : ∃ x : α, x = a)
def ptC (r : RP) : List Value := [.bool r.1, u64 (dig r.2.1 0), u64 (dig r.2.1 1), u64 (dig r.2.1 2), u64 (dig r.2.1 3), u64 (dig r.2.2 0), u64 (dig r.2.2 1), u64 (dig r.2.2 2), u64 (dig r.2.2 3)]
def jacC (t : N3) : List Value := [u64 (dig t.1 0), u64 (dig t.1 1), u64 (dig t.1 2), u64 (dig t.1 3), u64 (dig t.2.1 0), u64 (dig t.2.1 1), u64 (dig t.2.1 2), u64 (dig t.2.1 3), u64 (dig t.2.2 0), u64 (dig t.2.2 1), u64 (dig t.2.2 2), u64 (dig t.2.2 3)]
theorem ngR_ok {p : RP} (hp : ckR p = true) : ngR p = ofPt (negP (toPt p)) := by
 obtain ⟨i, X, Y⟩ := p
 unfold ckR at hp
 cases i with
 | true =>
  rw [if_pos rfl] at hp
  obtain ⟨rfl, rfl⟩ := (show X = 0 ∧ Y = 0 from of_decide_eq_true hp)
  rfl
 | false =>
  rw [if_neg Bool.false_ne_true] at hp
  obtain ⟨hX, hY, _⟩ := (show X < pP ∧ Y < pP ∧ _ from of_decide_eq_true hp)
  show (false, X, sp 0 Y) = (false, (zP X).val, (0 - zP Y : Kp).val)
  have : (0 - zP Y : Kp) = zP (sp 0 Y) := by rw [z_sp, zP_zero]
  rw [this, zP_val_lt hX, zP_val_lt (sp_lt _ _)]
theorem ck_okR {r : RP} (h : ckR r = true) : okR r := by rw [<- (ck_of h).2]; exact okR_ofPt _
def gR : RP := (false, gXn, gYn)
theorem gR_ck : ckR gR = true := by
 have := ck_ofPt G_on
 have e : ofPt Gp = gR := by
  show (false, (zP gXn).val, (zP gYn).val) = _
  rw [zP_val_lt (by decide), zP_val_lt (by decide)]; rfl
 rwa [e] at this
theorem gR_pt : toPt gR = Gp := rfl
end Go.W

namespace Go.W
def zR : RP := (false, 0, 0)
theorem okR_z : okR zR := ⟨by decide, by decide⟩
noncomputable def negS (p : RP) : RP := hide (ofPt (negP (toPt p)))
noncomputable def timS (n : Nat) (p : RP) : RP := hide (ofPt (mulP invP n (toPt p)))
noncomputable def basS (n : Nat) : RP := hide (ofPt (mulP invP n Gp))
noncomputable def twoS (n : Nat) (p : RP) (m : Nat) (q : RP) : RP := hide (ofPt (addP invP (mulP invP n (toPt p)) (mulP invP m (toPt q))))
def errP (b : Bool) : Int := if b = true then 0 else 3
def CChkF : List Value -> Option (Bool × Value)
 | [p] => some (isPt p, i64 (errP (ckR (unPt p))))
 | _ => none
noncomputable def CBasF : List Value -> Option (Bool × Value)
 | [n] => some (isNum n, ptV (basS (unnum n)))
 | _ => none
theorem ck_neg {p : RP} (h : ckR p = true) : ckR (negS p) = true := by unfold negS; rw [hide_eq]; exact ck_ofPt (neg_on (ck_of h).1)
theorem ck_bas (n : Nat) : ckR (basS n) = true := by unfold basS; rw [hide_eq]; exact ck_ofPt (mul_on fldP G_on n)
theorem pt_bas (n : Nat) : toPt (basS n) = mulP invP n Gp := by unfold basS; rw [hide_eq, toPt_ofPt]
theorem rp_ext {p q : RP} (hp : ckR p = true) (hq : ckR q = true) (h : toPt p = toPt q) : p = q := by rw [<- (ck_of hp).2, <- (ck_of hq).2, h]
end Go.W
