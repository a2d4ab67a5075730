/-
  Several texts in one: M89 W15 W25 M29 M31 M35 M36 M37 M38 W21 M51 M81 M82 M90 W32 M91 Xb M92 Xc.
-/
import Derived.Test.YtheldjiikjaimaaZd
import Derived.ChangeArms
import Derived.Deep.Slices
import Derived.Shelf.Pu.Clone
namespace Go.W
open Go
def fdN (x : Nat) : Nat := if 65 ≤ x ∧ x ≤ 90 then x + 32 else x
def fdU (x : UInt8) : UInt8 := UInt8.ofNat (fdN x.toNat)
theorem fdN_lt {x : Nat} (h : x < 256) : fdN x < 256 := by unfold fdN; split <;> omega
theorem fdU_nat (x : UInt8) : (fdU x).toNat = fdN x.toNat := by
  unfold fdU
  rw [UInt8.toNat_ofNat']
  exact Nat.mod_eq_of_lt (fdN_lt x.toNat_lt)
noncomputable def foT (s : ByteArray) : ByteArray := hide ⟨(s.data.toList.map fdU).toArray⟩
theorem foT_size (s : ByteArray) : (foT s).size = s.size := by
  unfold foT; rw [hide_eq]
  show (List.toArray _).size = s.data.size
  simp
theorem byt_fo (s : ByteArray) (j : Nat) : byt (foT s) j = fdN (byt s j) := by
  unfold foT; rw [hide_eq]
  unfold byt
  show ((List.map fdU s.data.toList).toArray.toList.getD j 0).toNat = _
  rw [List.toList_toArray, List.getD_eq_getElem?_getD, List.getD_eq_getElem?_getD, List.getElem?_map]
  cases h : s.data.toList[j]? with
  | none => rfl
  | some x => exact fdU_nat x
theorem fdN_idem (x : Nat) : fdN (fdN x) = fdN x := by unfold fdN; split <;> first | rfl | (split <;> omega)
theorem foT_foT (s : ByteArray) : foT (foT s) = foT s :=
  txt_ext (foT_size _) fun j _ => by rw [byt_fo, byt_fo, fdN_idem]
theorem fdN_hi {x : Nat} (h : 128 ≤ x) : fdN x = x := by unfold fdN; rw [if_neg (by omega)]
theorem fdN_lo {x : Nat} : fdN x < 128 ↔ x < 128 := by unfold fdN; split <;> omega
theorem fo_back {x : Nat} (h : 128 ≤ fdN x) : fdN x = x := fdN_hi (by have := @fdN_lo x; omega)
theorem rune_fo {b : Nat → Nat} {i r w : Nat} (h : runeAt b i r w) : runeAt (fun j => fdN (b j)) i (fdN r) w := by
  rcases h with ⟨rfl, h1, rfl⟩ | ⟨rfl, h1, h2, h0, h3⟩ | ⟨rfl, h1, h2, h3, h0, h4, h5⟩ | ⟨rfl, h1, h2, h3, h4, h0, h5, h6⟩
  · exact .inl ⟨rfl, fdN_lo.2 h1, rfl⟩
  · have e0 : fdN (b i) = b i := fdN_hi (by omega)
    have e1 : fdN (b (i + 1)) = b (i + 1) := fdN_hi (by omega)
    have er : fdN r = r := fdN_hi (by omega)
    exact .inr (.inl ⟨rfl, by show fdN (b i) / 32 = 6; rw [e0]; exact h1, by show fdN (b (i + 1)) / 64 = 2; rw [e1]; exact h2, by show fdN r = fdN (b i) % 32 * 64 + fdN (b (i + 1)) % 64; rw [er, e0, e1]; exact h0, by rw [er]; exact h3⟩)
  · have e0 : fdN (b i) = b i := fdN_hi (by omega)
    have e1 : fdN (b (i + 1)) = b (i + 1) := fdN_hi (by omega)
    have e2 : fdN (b (i + 2)) = b (i + 2) := fdN_hi (by omega)
    have er : fdN r = r := fdN_hi (by omega)
    exact .inr (.inr (.inl ⟨rfl, by show fdN (b i) / 16 = 14; rw [e0]; exact h1, by show fdN (b (i + 1)) / 64 = 2; rw [e1]; exact h2, by show fdN (b (i + 2)) / 64 = 2; rw [e2]; exact h3, by show fdN r = fdN (b i) % 16 * 4096 + fdN (b (i + 1)) % 64 * 64 + fdN (b (i + 2)) % 64; rw [er, e0, e1, e2]; exact h0, by rw [er]; exact h4, by rw [er]; exact h5⟩))
  · have e0 : fdN (b i) = b i := fdN_hi (by omega)
    have e1 : fdN (b (i + 1)) = b (i + 1) := fdN_hi (by omega)
    have e2 : fdN (b (i + 2)) = b (i + 2) := fdN_hi (by omega)
    have e3 : fdN (b (i + 3)) = b (i + 3) := fdN_hi (by omega)
    have er : fdN r = r := fdN_hi (by omega)
    exact .inr (.inr (.inr ⟨rfl, by show fdN (b i) / 8 = 30; rw [e0]; exact h1, by show fdN (b (i + 1)) / 64 = 2; rw [e1]; exact h2, by show fdN (b (i + 2)) / 64 = 2; rw [e2]; exact h3, by show fdN (b (i + 3)) / 64 = 2; rw [e3]; exact h4, by show fdN r = fdN (b i) % 8 * 262144 + fdN (b (i + 1)) % 64 * 4096 + fdN (b (i + 2)) % 64 * 64 + fdN (b (i + 3)) % 64; rw [er, e0, e1, e2, e3]; exact h0, by rw [er]; exact h5, by rw [er]; exact h6⟩))
theorem rune_of_fo {b : Nat → Nat} {i r w : Nat} (h : runeAt (fun j => fdN (b j)) i r w) : ∃ r', runeAt b i r' w := by
  rcases h with ⟨rfl, h1, rfl⟩ | ⟨rfl, h1, h2, h0, h3⟩ | ⟨rfl, h1, h2, h3, h0, h4, h5⟩ | ⟨rfl, h1, h2, h3, h4, h0, h5, h6⟩
  · exact ⟨b i, .inl ⟨rfl, fdN_lo.1 h1, rfl⟩⟩
  · have h1 : fdN (b i) / 32 = 6 := h1
    have h2 : fdN (b (i + 1)) / 64 = 2 := h2
    have h0 : r = fdN (b i) % 32 * 64 + fdN (b (i + 1)) % 64 := h0
    have e0 : fdN (b i) = b i := fo_back (by omega)
    have e1 : fdN (b (i + 1)) = b (i + 1) := fo_back (by omega)
    rw [e0] at h1
    rw [e1] at h2
    rw [e0, e1] at h0
    exact ⟨r, .inr (.inl ⟨rfl, h1, h2, h0, h3⟩)⟩
  · have h1 : fdN (b i) / 16 = 14 := h1
    have h2 : fdN (b (i + 1)) / 64 = 2 := h2
    have h3 : fdN (b (i + 2)) / 64 = 2 := h3
    have h0 : r = fdN (b i) % 16 * 4096 + fdN (b (i + 1)) % 64 * 64 + fdN (b (i + 2)) % 64 := h0
    have e0 : fdN (b i) = b i := fo_back (by omega)
    have e1 : fdN (b (i + 1)) = b (i + 1) := fo_back (by omega)
    have e2 : fdN (b (i + 2)) = b (i + 2) := fo_back (by omega)
    rw [e0] at h1
    rw [e1] at h2
    rw [e2] at h3
    rw [e0, e1, e2] at h0
    exact ⟨r, .inr (.inr (.inl ⟨rfl, h1, h2, h3, h0, h4, h5⟩))⟩
  · have h1 : fdN (b i) / 8 = 30 := h1
    have h2 : fdN (b (i + 1)) / 64 = 2 := h2
    have h3 : fdN (b (i + 2)) / 64 = 2 := h3
    have h4 : fdN (b (i + 3)) / 64 = 2 := h4
    have h0 : r = fdN (b i) % 8 * 262144 + fdN (b (i + 1)) % 64 * 4096 + fdN (b (i + 2)) % 64 * 64 + fdN (b (i + 3)) % 64 := h0
    have e0 : fdN (b i) = b i := fo_back (by omega)
    have e1 : fdN (b (i + 1)) = b (i + 1) := fo_back (by omega)
    have e2 : fdN (b (i + 2)) = b (i + 2) := fo_back (by omega)
    have e3 : fdN (b (i + 3)) = b (i + 3) := fo_back (by omega)
    rw [e0] at h1
    rw [e1] at h2
    rw [e2] at h3
    rw [e3] at h4
    rw [e0, e1, e2, e3] at h0
    exact ⟨r, .inr (.inr (.inr ⟨rfl, h1, h2, h3, h4, h0, h5, h6⟩))⟩
theorem dec_fo {s : ByteArray} {p : Nat} (hp : p < s.size) : decB (byt (foT s)) (foT s).size p = (fdN (dC s p), dW s p) := by
  rw [foT_size, show byt (foT s) = fun j => fdN (byt s j) from funext (byt_fo s)]
  unfold dC dW
  rcases decB_cases (b := byt s) hp with ⟨h, hno⟩ | ⟨r, w, h, h1, h2⟩
  · rcases decB_cases (b := fun j => fdN (byt s j)) hp with ⟨h', _⟩ | ⟨r, w, h', h1, h2⟩
    · rw [h, h']; rfl
    · obtain ⟨r', h3⟩ := rune_of_fo h1
      exact absurd h3 (hno r' w h2)
  · rw [h]; exact decB_rune (rune_fo h1) h2
theorem ps_fo (s : ByteArray) : ∀ k, ps (foT s) k = ps s k
  | 0 => rfl
  | k + 1 => by
    rw [ps_succ, ps_succ, ps_fo s k]
    unfold stp
    rw [foT_size]
    by_cases h : ps s k < s.size
    · rw [if_pos h, if_pos h]
      show _ + (decB _ _ _).2 = _
      rw [dec_fo h]
    · rw [if_neg h, if_neg h]
theorem rN_fo (s : ByteArray) : rN (foT s) = rN s := by
  apply rN_of
  refine ⟨fun k hk => ?_, ?_⟩
  · rw [ps_fo, foT_size]; exact (rN_is s).1 k hk
  · rw [ps_fo, foT_size]; exact (rN_is s).2
theorem rc_fo {s : ByteArray} {k : Nat} (hk : k < rN s) : rc (foT s) k = fdN (rc s k) := by
  unfold rc
  rw [ps_fo]
  show (decB _ _ _).1 = _
  rw [dec_fo ((rN_is s).1 k hk)]
theorem okC_fo (r : Nat) : okC (fdN r) ↔ okC r := by
  unfold okC fdN
  split <;> omega
theorem blank_fo (r : Nat) : fdN r = 32 ↔ r = 32 := by unfold fdN; split <;> omega
theorem lbl_fo (s : ByteArray) : lbl (foT s) ↔ lbl s := by
  unfold lbl
  rw [rN_fo]
  constructor
  · rintro ⟨h1, h2, h3, h4, h5⟩
    rw [rc_fo (by omega)] at h4 h5
    exact ⟨h1, h2, fun k hk => by have := h3 k hk; rw [rc_fo hk] at this; exact (okC_fo _).1 this, fun e => h4 ((blank_fo _).2 e), fun e => h5 ((blank_fo _).2 e)⟩
  · rintro ⟨h1, h2, h3, h4, h5⟩
    rw [rc_fo (by omega), rc_fo (by omega)]
    exact ⟨h1, h2, fun k hk => by rw [rc_fo hk]; exact (okC_fo _).2 (h3 k hk), fun e => h4 ((blank_fo _).1 e), fun e => h5 ((blank_fo _).1 e)⟩
def vld (r : Int) : Prop := 0 ≤ r ∧ r ≤ 1114111 ∧ ¬ (55296 ≤ r ∧ r < 57344)
end Go.W

namespace Go.W
open Go.RowKit (Below)
inductive Arg where
  | pl (v : Value)
  | sl (ks : List CK) (n : Nat) (g : Nat → List Value)
def argId (k : Nat) : Nat := 1500000 + k
section
variable {R : Type}
variable {R' : Type} (h : R → R')
end
section
variable {P : Program} {GL : Glob} {w0 : Wb GL} {R : Nat → Pl → Prop} {fm : Nat → Option Blk} {w : World}
end
section
variable {GL : Glob} {w0 : Wb GL} {R : Nat → Pl → Prop} {fm : Nat → Option Blk} {w : World}
end
section
variable {P : Program} [Laid P] {C : Cfg} {c : Code}
section
variable {T : Tab} {GL : Glob} {w0 : Wb GL} {R R' : Nat → Pl → Prop} {fm : Nat → Option Blk} {w w' : World} {wc : Wb GL} {mC : Nat → Option Blk}
end
end
end Go.W

namespace Go.W
theorem loopE {P : Program} [Laid P] {code : Code} {n : Nat} (C : Nat → Cfg) (N : Nat) (hC : ∀ k, k ≤ N → CfgOk P (C k) code) (hn : ∀ k, (C k).n = n) {p : List Nat} (hp : codeAt p code = some (.loop (loopAt p code))) {m : Nat} {ts : List Nat} {is : Ren} {tx : Nat} {nt et : List Nat} {ni ei : Ren} {nx ex : Nat} (st : Nat → St) {e : Exit} {s0 sf : St} (h0 : s0 = st 0) (he : e ≠ .normal)
    (step : ∀ k, k < N → ∃ s, roundS (C k) m (p ++ [0]) (loopAt p code) nt ni nx et ei ex (st k) = some (.normal, s) ∧ stEq s (st (k + 1)) = true)
    (last : ∃ s, roundS (C N) m (p ++ [0]) (loopAt p code) nt ni nx et ei ex (st N) = some (e, s) ∧ stEq s sf = true) :
    LoopOk P n (loopAt p code) (atSt ts is tx s0 e sf) := by
  refine atSt_ok fun w0 R a w hrel => ?_
  rw [h0] at hrel
  have hx : codeAt (p ++ [0]) code = some (loopAt p code) := by rw [codeAt_app, hp]; rfl
  have key : ∀ j, j ≤ N → ∀ (R : Nat → Pl → Prop) (a : Act) (w : World), Rel w0 n R (st (N - j)).f a w → Code.rounds P (loopAt p code) (fun e' a' w' => e' = e ∧ ∃ R', Rel w0 n R' sf.f a' w') (j + 1) a w := by
    intro j
    induction j with
    | zero =>
      intro _ R a w hr
      rw [rounds_succ]
      obtain ⟨s, h1, h2⟩ := last
      have hs := round_sound (hC N (Nat.le_refl _)) hx h1 (w0 := w0) (R := R) (a := a) (w := w) (by rw [hn]; exact hr)
      rw [hn] at hs
      refine wp_mono hs ?_
      rintro e' a' w' ⟨rfl, R', hr'⟩
      cases e' with
      | normal => exact absurd rfl he
      | _ => exact ⟨rfl, R', hr'.eqv h2⟩
    | succ j ih =>
      intro hj R a w hr
      rw [rounds_succ]
      obtain ⟨s, h1, h2⟩ := step (N - (j + 1)) (by omega)
      have hs := round_sound (hC (N - (j + 1)) (by omega)) hx h1 (w0 := w0) (R := R) (a := a) (w := w) (by rw [hn]; exact hr)
      rw [hn] at hs
      refine wp_mono hs ?_
      rintro e' a' w' ⟨rfl, R', hr'⟩
      refine ih (by omega) R' a' w' ?_
      rw [show N - j = N - (j + 1) + 1 from by omega]
      exact hr'.eqv h2
  exact wp_loop_rounds (N + 1) (key N (Nat.le_refl N) R a w (by rw [Nat.sub_self]; exact hrel))
theorem mNil : memEq [] [] = true := rfl
theorem mRow {a : Nat} {ks : List CK} {n : Nat} {f g : Nat → List Value} {e : TypeId} {o : Bool} {l m : List (Nat × Blk)} (h : ∀ j, j < n → nrmK ks (f j) = nrmK ks (g j)) (h2 : memEq l m = true) : memEq ((a, ⟨.row ks n f, e, o⟩) :: l) ((a, ⟨.row ks n g, e, o⟩) :: m) = true := memEq_cons (cellsEq_rr h) h2
end Go.W

namespace Go.W
section
variable {P0 : Nat} [NeZero P0]
theorem d1 (x y : Fin P0) : (x * x + (x * x + x * x)) * (x * x + (x * x + x * x)) - (x * ((y + y) * (y + y)) + x * ((y + y) * (y + y))) = twX x y := by unfold twX; grind
theorem d2 (x y : Fin P0) : (x * x + (x * x + x * x)) * (x * ((y + y) * (y + y)) - twX x y) - (y + y) * (y + y) * (y + y) * y = twY x y := by unfold twY; generalize twX x y = w; grind
theorem d3 (y z : Fin P0) : (y + y) * z = twZ y z := by unfold twZ; grind
end
section
variable {P0 : Nat} [NeZero P0]
theorem p1 (x2 z x : Fin P0) : x2 * (z * z) - x = plU x2 z - plU x 1 := by unfold plU; grind
theorem p2 (y2 z y : Fin P0) : y2 * (z * (z * z)) - y = plS y2 z - plS y 1 := by unfold plS; grind
theorem p3 (x h r : Fin P0) : r * r - h * (h * h) - (x * (h * h) + x * (h * h)) = plX (plU x 1) h r := by unfold plX plU; grind
end
end Go.W

namespace Go.W
def kB : List CK := [.i .u8]
def bI (f : Nat → List Value) (j : Nat) : Int := toI ((f j).headD (.bool false))
theorem nrm_kB (f : Nat → List Value) (j : Nat) : nrmK kB (f j) = [.int .u8 (bI f j)] := rfl
end Go.W

namespace Go.W
def rotN (X n : Nat) : Nat := (X * 2 ^ (32 - n) % 4294967296) ||| (X / 2 ^ n)
end Go.W

namespace Go.W
def ad (a b : Nat) : Nat := (a + b) % 4294967296
def ntN (a : Nat) : Nat := 4294967295 ^^^ a
def kL : List Nat := [1116352408, 1899447441, 3049323471, 3921009573, 961987163, 1508970993, 2453635748, 2870763221, 3624381080, 310598401, 607225278, 1426881987, 1925078388, 2162078206, 2614888103, 3248222580, 3835390401, 4022224774, 264347078, 604807628, 770255983, 1249150122, 1555081692, 1996064986, 2554220882, 2821834349, 2952996808, 3210313671, 3336571891, 3584528711, 113926993, 338241895, 666307205, 773529912, 1294757372, 1396182291, 1695183700, 1986661051, 2177026350, 2456956037, 2730485921, 2820302411, 3259730800, 3345764771, 3516065817, 3600352804, 4094571909, 275423344, 430227734, 506948616, 659060556, 883997877, 958139571, 1322822218, 1537002063, 1747873779, 1955562222, 2024104815, 2227730452, 2361852424, 2428436474, 2756734187, 3204031479, 3329325298]
def kN (t : Nat) : Nat := kL.getD t 0
def s0N (x : Nat) : Nat := rotN x 7 ^^^ rotN x 18 ^^^ (x / 2 ^ 3)
def s1N (x : Nat) : Nat := rotN x 17 ^^^ rotN x 19 ^^^ (x / 2 ^ 10)
def S0N (x : Nat) : Nat := rotN x 2 ^^^ rotN x 13 ^^^ rotN x 22
def S1N (x : Nat) : Nat := rotN x 6 ^^^ rotN x 11 ^^^ rotN x 25
def chN (e f g : Nat) : Nat := (e &&& f) ^^^ (ntN e &&& g)
def maN (a b c : Nat) : Nat := (a &&& b) ^^^ (a &&& c) ^^^ (b &&& c)
def wdN (a b c d : Nat) : Nat := ((a * 2 ^ 24 % 4294967296) ||| (b * 2 ^ 16 % 4294967296) ||| (c * 2 ^ 8 % 4294967296)) ||| d
def nxN (w16 w15 w7 w2 : Nat) : Nat := ad (ad (ad (s1N w2) w7) (s0N w15)) w16
def wNew (B : Nat → Nat) (t : Nat) (l : List Nat) : Nat := bif Nat.blt t 16 then wdN (B (4 * t)) (B (4 * t + 1)) (B (4 * t + 2)) (B (4 * t + 3)) else nxN (l.getD 15 0) (l.getD 14 0) (l.getD 6 0) (l.getD 1 0)
def wL (B : Nat → Nat) : Nat → List Nat
  | 0 => []
  | t + 1 => wNew B t (wL B t) :: wL B t
def wT (B : Nat → Nat) (t : Nat) : Nat := wNew B t (wL B t)
structure S8 where
  a : Nat
  b : Nat
  c : Nat
  d : Nat
  e : Nat
  f : Nat
  g : Nat
  h : Nat
def S8.ok (s : S8) : Prop := s.a < 4294967296 ∧ s.b < 4294967296 ∧ s.c < 4294967296 ∧ s.d < 4294967296 ∧ s.e < 4294967296 ∧ s.f < 4294967296 ∧ s.g < 4294967296 ∧ s.h < 4294967296
def t1N (s : S8) (k w : Nat) : Nat := ad (ad (ad (ad s.h (S1N s.e)) (chN s.e s.f s.g)) k) w
def t2N (s : S8) : Nat := ad (S0N s.a) (maN s.a s.b s.c)
def rnd (k w : Nat) (s : S8) : S8 := ⟨ad (t1N s k w) (t2N s), s.a, s.b, s.c, ad s.d (t1N s k w), s.e, s.f, s.g⟩
def rnds (W : Nat → Nat) (s : S8) : Nat → S8
  | 0 => s
  | t + 1 => rnd (kN t) (W t) (rnds W s t)
def adS (s v : S8) : S8 := ⟨ad s.a v.a, ad s.b v.b, ad s.c v.c, ad s.d v.d, ad s.e v.e, ad s.f v.f, ad s.g v.g, ad s.h v.h⟩
theorem mix_ex (s : S8) (B : Nat → Nat) : ∃ x, x = adS s (rnds (wT B) s 64) := ⟨_, rfl⟩
noncomputable def mixN (s : S8) (B : Nat → Nat) : S8 := Classical.choose (mix_ex s B)
noncomputable def hs (s : S8) (B : Nat → Nat) : Nat → S8
  | 0 => s
  | k + 1 => mixN (hs s B k) (fun j => B (64 * k + j))
def S8.at (s : S8) : Nat → Nat
  | 0 => s.a
  | 1 => s.b
  | 2 => s.c
  | 3 => s.d
  | 4 => s.e
  | 5 => s.f
  | 6 => s.g
  | _ => s.h
def h0 : S8 := ⟨1779033703, 3144134277, 1013904242, 2773480762, 1359893119, 2600822924, 528734635, 1541459225⟩
end Go.W

namespace Go.W
def z8 : Value := .int .u8 0
end Go.W

namespace Go.W
def S8.beq (s t : S8) : Bool := Nat.beq s.a t.a && Nat.beq s.b t.b && Nat.beq s.c t.c && Nat.beq s.d t.d && Nat.beq s.e t.e && Nat.beq s.f t.f && Nat.beq s.g t.g && Nat.beq s.h t.h
def sgF (n : Nat) (f : Nat → List Value) : Nat → List Value := segF ⟨0, 0, n, kB, n, f, 0, false, []⟩
theorem bI_sg (n : Nat) (f : Nat → List Value) (j : Nat) : bI (sgF n f) j = bI f j := by show bI f (0 + j) = bI f j; rw [Nat.zero_add]
end Go.W

namespace Go.W
open Go.RowKit (Below)
section
variable {P : Program} [Laid P]
end
def RowW (w : World) (e : TypeId) (ks : List CK) (m : Nat) (f : Nat → List Value) (v : Value) : Prop :=
  (m = 0 ∧ Emp v) ∨ ∃ b d c cs fz, v = .slice (some ⟨b, d, none⟩) m c ∧ m ≤ c ∧ w.heap[b]? = some (.cells cs e fz) ∧ (cs.toList.drop d).take (m * ks.length) = rowL ks f 0 m
section
variable {GL : Glob} {w0 : Wb GL} {R : Nat → Pl → Prop} {fm : Nat → Option Blk} {w : World}
end
inductive ArgF where
  | pl (v : Value)
  | sl (ks : List CK) (n : Nat) (g : Nat → List Value)
  | fm (ks : List CK) (n : Nat) (g : Nat → Nat × (Nat → List Value))
def RcF (w : World) (pl : Nat → Option Pl) (N : Nat) (i : Nat) (p : Pl) : Prop :=
  (∃ j, j < N ∧ i = argId j ∧ pl j = some p) ∨ (∃ b, (∃ cs e fz, w.heap[b]? = some (.cells cs e fz)) ∧ i = 1000000000 + b ∧ p = ⟨some b, 0, 0⟩)
theorem RowW.at {w : World} {e : TypeId} {ks : List CK} {m : Nat} {f : Nat → List Value} {v : Value} (h : RowW w e ks m f v) (pl : Nat → Option Pl) (N : Nat) : RowAt (RcF w pl N) w e ks m f v := by
  rcases h with h | ⟨b, d, c, cs, fz, h1, h2, h3, h4⟩
  · exact .inl h
  · exact .inr ⟨b, d, c, cs, fz, h1, h2, .inr ⟨b, ⟨cs, e, fz, h3⟩, rfl, rfl⟩, h3, h4⟩
section
variable {GL : Glob} {w0 : Wb GL} {R : Nat → Pl → Prop} {fm : Nat → Option Blk} {w : World}
end
section
variable {P : Program} [Laid P]
end
end Go.W

namespace Go.W
theorem bE {a b : Nat} (h : a ≤ b) : Nat.ble a b = true := by rw [Nat.ble_eq]; exact h
end Go.W

namespace Go.W
def pkOk (n s : Int) : Prop := 1 ≤ s ∧ s ≤ 7 ∧ 0 ≤ n ∧ n < 2 ^ (8 * s.toNat)
instance (n s : Int) : Decidable (pkOk n s) := by unfold pkOk; infer_instance
end Go.W

namespace Go.W
def kb3 (k : Nat) : Bool := true && Nat.ble k k && true
theorem kb3_true (k : Nat) : kb3 k = true := by unfold kb3; rw [bE (Nat.le_refl _)]; rfl
end Go.W

namespace Go.W
open Go
instance (r : Int) : Decidable (vld r) := by unfold vld; infer_instance
end Go.W

namespace Go.W
section
variable {P : Program} [Laid P]
theorem sum_per {g : FuncId} {fn : Func} {c : Code} (hf : P.funcs[g]? = some fn) (hname : (fn.name == "runtime.NumGoroutine") = false) (hb : fn.body = some c) {fuel : Nat} {F : List Value → Option (Bool × Value)}
    (h : ∀ args v, F args = some (true, v) → args.all pl2 = true → ∃ C, CfgOk P C c ∧ C.n = fn.ntmps ∧ args.length ≤ fn.ntmps ∧ fnS C fuel fn c args = some v ∧ pl2 v = true) : Sum P g F := by
  intro args v hF hpl w hg
  obtain ⟨C, hC, hn, hl, hev, hv⟩ := h args v hF hpl
  exact sum_at hC hf hname hb hn hl hev hv hpl w hg
end
end Go.W

namespace Go.W
open Go
noncomputable def lRnF : List Value → Option (Bool × Value)
  | [.string s] => some (Nat.ble s.size 1000000, i64 ((rN s : Nat) : Int))
  | _ => none
noncomputable def lFoF : List Value → Option (Bool × Value)
  | [.string s] => some (Nat.ble s.size 1000000, .string (foT s))
  | _ => none
noncomputable def lSaF : List Value → Option (Bool × Value)
  | [.string a, .string b] => some (Nat.ble a.size 1000000 && Nat.ble b.size 1000000, .bool (foT a == foT b))
  | _ => none
noncomputable def lbE (s : ByteArray) : Int := hide (if lblB s then 0 else 8)
noncomputable def lChF : List Value → Option (Bool × Value)
  | [.string s] => some (Nat.ble s.size 1000000, i64 (lbE s))
  | _ => none
theorem lbE_yes {s : ByteArray} (h : lbl s) : lbE s = 0 := by unfold lbE; rw [hide_eq, lblB_iff.2 h]; rfl
theorem lbE_no {s : ByteArray} (h : ¬ lbl s) : lbE s = 8 := by
  unfold lbE; rw [hide_eq, show lblB s = false from by rw [Bool.eq_false_iff, ne_eq, lblB_iff]; exact h]; rfl
instance (r : Nat) : Decidable (okC r) := by unfold okC; infer_instance
def goodTo (s : ByteArray) (k : Nat) : Prop := okC (rc s k) ∧ k < 24
instance (s : ByteArray) (k : Nat) : Decidable (goodTo s k) := by unfold goodTo; infer_instance
theorem first_or (p : Nat → Prop) : ∀ n, (∀ k, k < n → p k) ∨ ∃ k, k < n ∧ ¬ p k ∧ ∀ j, j < k → p j
  | 0 => .inl fun k h => absurd h (Nat.not_lt_zero _)
  | n + 1 => by
    rcases first_or p n with h | ⟨k, h1, h2⟩
    · by_cases e : p n
      · left
        intro k hk
        by_cases e2 : k = n
        · rw [e2]; exact e
        · exact h k (by omega)
      · exact .inr ⟨n, by omega, e, h⟩
    · exact .inr ⟨k, by omega, h2⟩
def goodL (s : ByteArray) (k : Nat) : Prop := goodTo s k ∧ (k = 0 → rc s k ≠ 32)
instance (s : ByteArray) (k : Nat) : Decidable (goodL s k) := by unfold goodL; infer_instance
theorem lbl_end {s : ByteArray} (h : ∀ k, k < rN s → goodL s k) : lbl s ↔ 1 ≤ rN s ∧ rc s (rN s - 1) ≠ 32 := by
  constructor
  · exact fun hl => ⟨hl.1, hl.2.2.2.2⟩
  · rintro ⟨h1, h2⟩
    have := (h (rN s - 1) (by omega)).1.2
    exact ⟨h1, by omega, fun k hk => (h k hk).1.1, (h 0 (by omega)).2 rfl, h2⟩
theorem not_lblL {s : ByteArray} {k : Nat} (hk : k < rN s) (h : ¬ goodL s k) : ¬ lbl s := fun hl => h ⟨⟨hl.2.2.1 k hk, by have := hl.2.1; omega⟩, fun e => by rw [e]; exact hl.2.2.2.1⟩
noncomputable def msB (r : Int) : Bool := hide (decide (32 ≤ r ∧ (r < 127 ∨ 159 < r) ∧ r ≠ 65533))
noncomputable def lMsF : List Value → Option (Bool × Value)
  | [.int .i32 r] => some (true, .bool (msB r))
  | _ => none
noncomputable def msT (r : Int) : Option Value :=
  bif decide (r ≥ 32) then (bif decide (r < 127) then some (.bool (r != 65533)) else (bif decide (r > 159) then some (.bool (r != 65533)) else some (.bool false))) else some (.bool false)
theorem msT_eq (r : Int) : msT r = some (.bool (msB r)) := by
  unfold msT msB
  rw [hide_eq]
  have e : ∀ b : Bool, (b = decide (32 ≤ r ∧ (r < 127 ∨ 159 < r) ∧ r ≠ 65533)) → some (Value.bool b) = some (.bool (decide (32 ≤ r ∧ (r < 127 ∨ 159 < r) ∧ r ≠ 65533))) := fun b h => by rw [h]
  by_cases h1 : r ≥ 32
  · rw [decide_eq_true h1, cond_true]
    by_cases h2 : r < 127
    · rw [decide_eq_true h2, cond_true]
      apply e
      rw [Bool.eq_iff_iff, bne_iff_ne, decide_eq_true_iff]; omega
    · rw [decide_eq_false h2, cond_false]
      by_cases h3 : r > 159
      · rw [decide_eq_true h3, cond_true]
        apply e
        rw [Bool.eq_iff_iff, bne_iff_ne, decide_eq_true_iff]; omega
      · rw [decide_eq_false h3, cond_false]
        apply e
        rw [eq_comm, decide_eq_false_iff_not]; omega
  · rw [decide_eq_false h1, cond_false]
    apply e
    rw [eq_comm, decide_eq_false_iff_not]; omega
theorem msB_ok (r : Nat) : msB (r : Int) = decide (okC r) := by
  unfold msB; rw [hide_eq]
  apply decide_eq_decide.2
  unfold okC; omega
theorem rwS_list (n : Nat) (g : Nat → List Value) : (rowS n g).data.toList = (nsL g 0 n).map (fun n => UInt8.ofNat n.toNat) := by
  have key : ∀ (l : List Int) (r : ByteArray), (l.foldl (fun r n => r.push (UInt8.ofNat n.toNat)) r).data.toList = r.data.toList ++ l.map (fun n => UInt8.ofNat n.toNat) := by
    intro l
    induction l with
    | nil => intro r; simp
    | cons x l ih =>
      intro r
      rw [List.foldl_cons, ih]
      show (r.data.push _).toList ++ _ = _
      rw [Array.toList_push, List.map_cons, List.append_assoc]; rfl
  unfold rowS
  rw [key]; rfl
theorem rwS_size (n : Nat) (g : Nat → List Value) : (rowS n g).size = n := by
  show (rowS n g).data.size = n
  rw [← Array.length_toList, rwS_list, List.length_map, nsL_len]
theorem nsL_at (g : Nat → List Value) : ∀ (n lo j : Nat), j < n → (nsL g lo n)[j]? = some (bI g (lo + j))
  | 0, _, _, h => absurd h (Nat.not_lt_zero _)
  | n + 1, lo, 0, _ => rfl
  | n + 1, lo, j + 1, h => by
    have := nsL_at g n (lo + 1) j (by omega)
    rw [show lo + (j + 1) = lo + 1 + j from by omega, ← this]; rfl
theorem rwS_byt {n : Nat} {g : Nat → List Value} {j : Nat} (h : j < n) : byt (rowS n g) j = (bI g j).toNat % 256 := by
  unfold byt
  rw [rwS_list, List.getD_eq_getElem?_getD, List.getElem?_map, nsL_at g n 0 j h, Nat.zero_add]
  show (UInt8.ofNat _).toNat = _
  exact UInt8.toNat_ofNat'
noncomputable def loK (s : ByteArray) (k : Nat) : Nat → List Value := fun j => [.int .u8 (hide (if j < k then ((fdN (byt s j) : Nat) : Int) else ((byt s j : Nat) : Int)))]
theorem bI_loK (s : ByteArray) (k j : Nat) : bI (loK s k) j = if j < k then ((fdN (byt s j) : Nat) : Int) else ((byt s j : Nat) : Int) := by show hide _ = _; rw [hide_eq]
theorem bI_strF (s : ByteArray) (j : Nat) : bI (strF s) j = ((byt s j : Nat) : Int) := rfl
theorem loK_zero (s : ByteArray) (j : Nat) : nrmK kB (strF s j) = nrmK kB (loK s 0 j) := by rw [nrm_kB, nrm_kB, bI_strF, bI_loK, if_neg (Nat.not_lt_zero _)]
theorem bI_up1 (f : Nat → List Value) (k : Nat) (x : Int) (j : Nat) : bI (updR f k [.int .u8 x]) j = if j = k then x else bI f j := by
  unfold bI updR
  by_cases h : j = k
  · subst h; rw [Nat.beq_refl, cond_true, if_pos rfl]; rfl
  · rw [nbeq_ne h, cond_false, if_neg h]
theorem loK_up (s : ByteArray) {k : Nat} (h : 65 ≤ byt s k ∧ byt s k ≤ 90) (j : Nat) : nrmK kB (updR (loK s k) (0 + k) [.int .u8 (IntKind.u8.wrap (IntKind.u8.wrap (bI (loK s k) (0 + k) - 65) + 97))] j) = nrmK kB (loK s (k + 1) j) := by
  rw [nrm_kB, nrm_kB, Nat.zero_add, bI_loK s k k, if_neg (Nat.lt_irrefl _), wrap_u8, wrap_u8, bI_loK, bI_up1, bI_loK]
  by_cases e : j = k
  · subst e
    rw [if_pos (Nat.lt_succ_self _), if_pos rfl]; unfold fdN; rw [if_pos h, show (((byt s j : Nat) : Int) - 65) % 256 + 97 = ((byt s j + 32 : Nat) : Int) from by omega, show ((byt s j + 32 : Nat) : Int) % 256 = ((byt s j + 32 : Nat) : Int) from by omega]
  · rw [if_neg e]
    by_cases h1 : j < k
    · rw [if_pos h1, if_pos (by omega)]
    · rw [if_neg h1, if_neg (by omega)]
theorem loK_no (s : ByteArray) {k : Nat} (h : ¬ (65 ≤ byt s k ∧ byt s k ≤ 90)) (j : Nat) : nrmK kB (loK s k j) = nrmK kB (loK s (k + 1) j) := by
  rw [nrm_kB, nrm_kB, bI_loK, bI_loK]
  by_cases e : j = k
  · subst e
    rw [if_neg (Nat.lt_irrefl _), if_pos (Nat.lt_succ_self _)]; unfold fdN; rw [if_neg h]
  · by_cases h1 : j < k
    · rw [if_pos h1, if_pos (by omega)]
    · rw [if_neg h1, if_neg (by omega)]
theorem foR_text {s : ByteArray} {g : Nat → List Value} (hg : ∀ j, j < s.size → bI g j = ((fdN (byt s j) : Nat) : Int)) : rowS s.size g = foT s :=
  txt_ext (by rw [rwS_size, foT_size]) fun j hj => by
    rw [rwS_size] at hj
    rw [rwS_byt hj, byt_fo, hg j hj, Int.toNat_natCast, Nat.mod_eq_of_lt (fdN_lt (byt_lt s j))]
end Go.W

namespace Go.Proofs.Ytheldjiikjaimaa
set_option maxRecDepth 100000
open Go.W
def lmsC : Cfg := ⟨tab, [], 17, []⟩
theorem lmsOk : CfgOk Try.prog lmsC (bodyOf Try.f19) := ⟨mixed, tabOk, sums_nil, noL⟩
theorem lms_ev (n : Int) : fnS lmsC 60 Try.f19 (bodyOf Try.f19) [.int .i32 n] = msT n := by kernel_rfl
theorem lms_sum : Sum Try.prog 19 lMsF := by
  refine sum_of lmsOk Try.func19 (by kernel_rfl) (by kernel_rfl) rfl (fuel := 60) fun args v h hpl => ?_
  unfold lMsF at h
  split at h
  · rename_i n
    simp only [Option.some.injEq, Prod.mk.injEq] at h
    obtain ⟨_, rfl⟩ := h
    exact ⟨by show 1 ≤ Try.f19.ntmps; decide +kernel, (lms_ev n).trans (msT_eq n), rfl⟩
  · simp at h
noncomputable def lckS : Sums := [(19, lMsF)]
theorem lckS_ok : SumsOk Try.prog lckS := sums_cons lms_sum sums_nil
noncomputable def lckC0 : Cfg := ⟨tab, lckS, 36, []⟩
theorem lckOk0 : CfgOk Try.prog lckC0 (bodyOf Try.f9) := ⟨mixed, tabOk, lckS_ok, noL⟩
theorem lck_at : codeAt [1, 1, 1, 0, 1, 0] (bodyOf Try.f9) = some (.loop (loopAt [1, 1, 1, 0, 1, 0] (bodyOf Try.f9))) := by kernel_rfl
def lckNt : List Nat := [3, 4, 8]
def lckSt (s : ByteArray) (n l : Int) (p : Nat) : St := ⟨[(3, i64 n), (4, .int .i32 l), (8, .pointer (some ⟨4, 0, none⟩))], [(4, ⟨.itr s p, 0, true⟩)], 5⟩
def lckE (n l : Int) : St := ⟨[(3, i64 n), (4, .int .i32 l)], [], 5⟩
def lckX : St := ⟨[(2, i64 8)], [], 5⟩
noncomputable def lckQ {α : Type} (s : ByteArray) (p : Nat) (n : Int) (no yes : α) : α :=
  bif n == 24 then no else bif !(msB (dcC s p)) then no else bif n == 0 then (bif dcC s p == 32 then no else yes) else yes
theorem lck_rA (s : ByteArray) (n l : Int) (p : Nat) : roundS lckC0 60 [1, 1, 1, 0, 1, 0, 0] (loopAt [1, 1, 1, 0, 1, 0] (bodyOf Try.f9)) lckNt [(4, 4)] 5 [3, 4] [] 5 (lckSt s n l p) =
    bif Nat.blt p s.size then lckQ s p n (some (.ret, lckE n l)) (some (.normal, lckSt s (IntKind.i64.wrap (n + 1)) (dcC s p) (p + dcW s p))) else some (.exit 0, lckE n l) := by kernel_rfl
theorem lck_rB (s : ByteArray) (n l : Int) (p : Nat) : roundS lckC0 60 [1, 1, 1, 0, 1, 0, 0] (loopAt [1, 1, 1, 0, 1, 0] (bodyOf Try.f9)) lckNt [(4, 4)] 5 [2] [] 5 (lckSt s n l p) =
    bif Nat.blt p s.size then lckQ s p n (some (.ret, lckX)) (some (.normal, lckSt s (IntKind.i64.wrap (n + 1)) (dcC s p) (p + dcW s p))) else none := by kernel_rfl
theorem lckQ_eq {α : Type} {s : ByteArray} {k : Nat} (h24 : k ≤ 24) (no yes : α) : lckQ s (ps s k) (k : Int) no yes = if goodL s k then yes else no := by
  unfold lckQ
  rw [dcC_dC, msB_ok, show ((k : Int) == 24) = decide (k = 24) from by rw [Bool.eq_iff_iff, beq_iff_eq, decide_eq_true_iff]; omega, show ((k : Int) == 0) = decide (k = 0) from by rw [Bool.eq_iff_iff, beq_iff_eq, decide_eq_true_iff]; omega,
    show (((dC s (ps s k) : Nat) : Int) == 32) = decide (rc s k = 32) from by rw [Bool.eq_iff_iff, beq_iff_eq, decide_eq_true_iff]; unfold rc; omega]
  by_cases h1 : k = 24
  · rw [decide_eq_true h1, cond_true, if_neg fun h => by have := h.1.2; omega]
  rw [decide_eq_false h1, cond_false]
  by_cases h2 : okC (rc s k)
  · rw [show decide (okC (dC s (ps s k))) = true from decide_eq_true h2, Bool.not_true, cond_false]
    by_cases h3 : k = 0
    · rw [decide_eq_true h3, cond_true]
      by_cases h4 : rc s k = 32
      · rw [decide_eq_true h4, cond_true, if_neg fun h => h.2 h3 h4]
      · rw [decide_eq_false h4, cond_false, if_pos ⟨⟨h2, by omega⟩, fun _ => h4⟩]
    · rw [decide_eq_false h3, cond_false, if_pos ⟨⟨h2, by omega⟩, fun h => absurd h h3⟩]
  · rw [show decide (okC (dC s (ps s k))) = false from decide_eq_false h2, Bool.not_false, cond_true, if_neg fun h => h2 h.1.1]
def lckL (s : ByteArray) : Nat → Int
  | 0 => 0
  | k + 1 => dcC s (ps s k)
theorem lck_next {s : ByteArray} {k : Nat} (hk : k < rN s) (hs : s.size ≤ 1000000) : lckSt s (IntKind.i64.wrap ((k : Int) + 1)) (dcC s (ps s k)) (ps s k + dcW s (ps s k)) = lckSt s ((k + 1 : Nat) : Int) (lckL s (k + 1)) (ps s (k + 1)) := by
  have hN := rN_le s
  have h1 := (rN_is s).1 k hk
  have h2 := ps_lt h1
  rw [wrap_i64 (by omega), dcW_dW, ← h2.2]; rfl
theorem lck_loopA {s : ByteArray} (hs : s.size ≤ 1000000) (hg : ∀ k, k < rN s → goodL s k) : LoopOk Try.prog 36 (loopAt [1, 1, 1, 0, 1, 0] (bodyOf Try.f9)) (atSt lckNt [(4, 4)] 5 (lckSt s 0 0 0) (.exit 0) (lckE ((rN s : Nat) : Int) (lckL s (rN s)))) := by
  have hN := rN_le s
  refine loopE (fun _ => lckC0) (rN s) (fun _ _ => lckOk0) (fun _ => rfl) lck_at (m := 60) (nt := lckNt) (ni := [(4, 4)]) (et := [3, 4]) (ei := []) (nx := 5) (ex := 5) (fun k => lckSt s (k : Int) (lckL s k) (ps s k)) rfl (by intro h; cases h) ?_ ?_
  · intro k hk
    have h1 := (rN_is s).1 k hk
    refine ⟨_, ?_, stEq_refl rfl⟩
    refine (lck_rA s _ _ _).trans ?_
    rw [show Nat.blt (ps s k) s.size = true from by rw [Nat.blt_eq]; exact h1, cond_true, lckQ_eq (by have := (hg k hk).1.2; omega), if_pos (hg k hk), lck_next hk hs]
  · refine ⟨_, ?_, stEq_refl rfl⟩
    refine (lck_rA s _ _ _).trans ?_
    rw [(rN_is s).2, show Nat.blt s.size s.size = false from by rw [Bool.eq_false_iff, ne_eq, Nat.blt_eq]; omega, cond_false]
theorem lck_loopB {s : ByteArray} (hs : s.size ≤ 1000000) {m : Nat} (hm : m < rN s) (hb : ¬ goodL s m) (hg : ∀ k, k < m → goodL s k) : LoopOk Try.prog 36 (loopAt [1, 1, 1, 0, 1, 0] (bodyOf Try.f9)) (atSt lckNt [(4, 4)] 5 (lckSt s 0 0 0) .ret lckX) := by
  have hN := rN_le s
  have hm24 : m ≤ 24 := by
    rcases Nat.lt_or_ge 24 m with h | h
    · have := (hg 24 h).1.2; omega
    · exact h
  refine loopE (fun _ => lckC0) m (fun _ _ => lckOk0) (fun _ => rfl) lck_at (m := 60) (nt := lckNt) (ni := [(4, 4)]) (et := [2]) (ei := []) (nx := 5) (ex := 5) (fun k => lckSt s (k : Int) (lckL s k) (ps s k)) rfl (by intro h; cases h) ?_ ?_
  · intro k hk
    have h1 := (rN_is s).1 k (by omega)
    refine ⟨_, ?_, stEq_refl rfl⟩
    refine (lck_rB s _ _ _).trans ?_
    rw [show Nat.blt (ps s k) s.size = true from by rw [Nat.blt_eq]; exact h1, cond_true, lckQ_eq (by have := (hg k hk).1.2; omega), if_pos (hg k hk), lck_next (by omega) hs]
  · have h1 := (rN_is s).1 m hm
    refine ⟨lckX, ?_, stEq_refl rfl⟩
    refine (lck_rB s _ _ _).trans ?_
    rw [show Nat.blt (ps s m) s.size = true from by rw [Nat.blt_eq]; exact h1, cond_true, lckQ_eq hm24, if_neg hb]
noncomputable def lckCA (s : ByteArray) (n l : Int) : Cfg := ⟨tab, lckS, 36, [([1, 1, 1, 0, 1, 0], atSt lckNt [(4, 4)] 5 (lckSt s 0 0 0) (.exit 0) (lckE n l))]⟩
noncomputable def lckCB (s : ByteArray) : Cfg := ⟨tab, lckS, 36, [([1, 1, 1, 0, 1, 0], atSt lckNt [(4, 4)] 5 (lckSt s 0 0 0) .ret lckX)]⟩
theorem lck_evA (s : ByteArray) (n l : Int) : fnS (lckCA s n l) 60 Try.f9 (bodyOf Try.f9) [.string s] = req (stEq (lckSt s 0 0 0) (lckSt s 0 0 0)) (bif n == 0 then some (i64 8) else bif l == 32 then some (i64 8) else some (i64 0)) := by kernel_rfl
theorem lck_evB (s : ByteArray) : fnS (lckCB s) 60 Try.f9 (bodyOf Try.f9) [.string s] = req (stEq (lckSt s 0 0 0) (lckSt s 0 0 0)) (some (i64 8)) := by kernel_rfl
theorem lck_sum : Sum Try.prog 9 lChF := by
  refine sum_per (c := bodyOf Try.f9) Try.func9 (by kernel_rfl) (by kernel_rfl) (fuel := 60) fun args v h hpl => ?_
  unfold lChF at h
  split at h
  · rename_i s
    simp only [Option.some.injEq, Prod.mk.injEq] at h
    obtain ⟨h1, rfl⟩ := h
    have h1 := Nat.le_of_ble_eq_true h1
    rcases first_or (goodL s) (rN s) with hg | ⟨m, hm, hb, hg⟩
    · refine ⟨lckCA s _ _, ⟨mixed, tabOk, lckS_ok, oneL (lck_loopA h1 hg)⟩, rfl, by show 1 ≤ Try.f9.ntmps; decide +kernel, (lck_evA s _ _).trans ?_, rfl⟩
      rw [req_true (stEq_refl rfl)]
      cases e : rN s with
      | zero => rw [lbE_no fun hl => by have := hl.1; omega]; rfl
      | succ k =>
        rw [show (((k + 1 : Nat) : Int) == 0) = false from beq_eq_false_iff_ne.2 (by omega), cond_false]
        show (bif dcC s (ps s k) == 32 then _ else _) = _
        rw [dcC_dC]
        have he := lbl_end hg
        rw [e] at he
        by_cases h3 : rc s k = 32
        · rw [lbE_no fun hl => (he.1 hl).2 h3, show (((dC s (ps s k) : Nat) : Int) == 32) = true from beq_iff_eq.2 (by unfold rc at h3; omega)]; rfl
        · rw [lbE_yes (he.2 ⟨by omega, h3⟩), show (((dC s (ps s k) : Nat) : Int) == 32) = false from beq_eq_false_iff_ne.2 (by unfold rc at h3; omega)]; rfl
    · refine ⟨lckCB s, ⟨mixed, tabOk, lckS_ok, oneL (lck_loopB h1 hm hb hg)⟩, rfl, by show 1 ≤ Try.f9.ntmps; decide +kernel, (lck_evB s).trans ?_, rfl⟩
      rw [req_true (stEq_refl rfl), lbE_no (not_lblL hm hb)]
  · simp at h
def lruC0 : Cfg := ⟨tab, [], 11, []⟩
theorem lruOk0 : CfgOk Try.prog lruC0 (bodyOf Try.f11) := ⟨mixed, tabOk, sums_nil, noL⟩
theorem lru_at : codeAt [1, 1, 0, 1, 0] (bodyOf Try.f11) = some (.loop (loopAt [1, 1, 0, 1, 0] (bodyOf Try.f11))) := by kernel_rfl
def lruNt : List Nat := [3, 5]
def lruSt (s : ByteArray) (n : Int) (p : Nat) : St := ⟨[(3, i64 n), (5, .pointer (some ⟨3, 0, none⟩))], [(3, ⟨.itr s p, 0, true⟩)], 4⟩
def lruE (n : Int) : St := ⟨[(3, i64 n)], [], 4⟩
theorem lru_r (s : ByteArray) (n : Int) (p : Nat) : roundS lruC0 60 [1, 1, 0, 1, 0, 0] (loopAt [1, 1, 0, 1, 0] (bodyOf Try.f11)) lruNt [(3, 3)] 4 [3] [] 4 (lruSt s n p) =
    bif Nat.blt p s.size then some (.normal, lruSt s (IntKind.i64.wrap (n + 1)) (p + dcW s p)) else some (.exit 0, lruE n) := by kernel_rfl
theorem lru_loop {s : ByteArray} (hs : s.size ≤ 1000000) : LoopOk Try.prog 11 (loopAt [1, 1, 0, 1, 0] (bodyOf Try.f11)) (atSt lruNt [(3, 3)] 4 (lruSt s 0 0) (.exit 0) (lruE ((rN s : Nat) : Int))) := by
  have hN := rN_le s
  refine loopE (fun _ => lruC0) (rN s) (fun _ _ => lruOk0) (fun _ => rfl) lru_at (m := 60) (nt := lruNt) (ni := [(3, 3)]) (et := [3]) (ei := []) (nx := 4) (ex := 4) (fun k => lruSt s (k : Int) (ps s k)) rfl (by intro h; cases h) ?_ ?_
  · intro k hk
    have h1 := (rN_is s).1 k hk
    have h2 := ps_lt h1
    refine ⟨_, ?_, stEq_refl rfl⟩
    refine (lru_r s _ _).trans ?_
    rw [show Nat.blt (ps s k) s.size = true from by rw [Nat.blt_eq]; exact h1, cond_true, dcW_dW, wrap_i64 (by omega), h2.2]; rfl
  · refine ⟨_, ?_, stEq_refl rfl⟩
    refine (lru_r s _ _).trans ?_
    rw [(rN_is s).2, show Nat.blt s.size s.size = false from by rw [Bool.eq_false_iff, ne_eq, Nat.blt_eq]; omega, cond_false]
noncomputable def lruC (s : ByteArray) (n : Int) : Cfg := ⟨tab, [], 11, [([1, 1, 0, 1, 0], atSt lruNt [(3, 3)] 4 (lruSt s 0 0) (.exit 0) (lruE n))]⟩
theorem lru_ev (s : ByteArray) (n : Int) : fnS (lruC s n) 60 Try.f11 (bodyOf Try.f11) [.string s] = req (stEq (lruSt s 0 0) (lruSt s 0 0)) (some (i64 n)) := by kernel_rfl
theorem lru_sum : Sum Try.prog 11 lRnF := by
  refine sum_per (c := bodyOf Try.f11) Try.func11 (by kernel_rfl) (by kernel_rfl) (fuel := 60) fun args v h hpl => ?_
  unfold lRnF at h
  split at h
  · rename_i s
    simp only [Option.some.injEq, Prod.mk.injEq] at h
    obtain ⟨h1, rfl⟩ := h
    have h1 := Nat.le_of_ble_eq_true h1
    refine ⟨lruC s _, ⟨mixed, tabOk, sums_nil, oneL (lru_loop h1)⟩, rfl, by show 1 ≤ Try.f11.ntmps; decide +kernel, (lru_ev s _).trans ?_, rfl⟩
    rw [req_true (stEq_refl rfl)]
  · simp at h
def lflC0 : Cfg := ⟨tab, [], 30, []⟩
theorem lflOk0 : CfgOk Try.prog lflC0 (bodyOf Try.f13) := ⟨mixed, tabOk, sums_nil, noL⟩
theorem lfl_at : codeAt [1, 1, 0, 1, 0] (bodyOf Try.f13) = some (.loop (loopAt [1, 1, 0, 1, 0] (bodyOf Try.f13))) := by kernel_rfl
def lflB : Nat := nid 2 0
def lflNt : List Nat := [3, 8, 9, 10]
def lflSt (n : Nat) (F : Nat → List Value) (t : Nat) : St := ⟨[(3, .slice (some ⟨lflB, 0, none⟩) n n), (8, .slice (some ⟨lflB, 0, none⟩) n n), (9, i64 ((n : Nat) : Int)), (10, i64 ((t : Nat) : Int))], [(lflB, ⟨.row kB n F, 5, true⟩)], 7⟩
def lflE (n : Nat) (F : Nat → List Value) : St := ⟨[(3, .slice (some ⟨lflB, 0, none⟩) n n)], [(lflB, ⟨.row kB n F, 5, true⟩)], 7⟩
noncomputable def lflT {α : Type} (n : Nat) (F : Nat → List Value) (t : Nat) (up no out : Option α) : Option α :=
  bif decide (((t : Nat) : Int) < ((n : Nat) : Int)) then req (inR ((t : Nat) : Int) n) (req (Nat.blt t n && true) (bif decide (65 ≤ bI F (0 + t)) then (bif decide (bI F (0 + t) ≤ 90) then req (inR ((t : Nat) : Int) n) (req (Nat.blt t n && true) up) else no) else no)) else out
theorem lfl_r (n : Nat) (F : Nat → List Value) (t : Nat) : roundS lflC0 60 [1, 1, 0, 1, 0, 0] (loopAt [1, 1, 0, 1, 0] (bodyOf Try.f13)) lflNt [(lflB, lflB)] 7 [3] [(lflB, lflB)] 7 (lflSt n F t) =
    lflT n F t (some (.normal, ⟨[(3, .slice (some ⟨lflB, 0, none⟩) n n), (8, .slice (some ⟨lflB, 0, none⟩) n n), (9, i64 ((n : Nat) : Int)), (10, i64 (IntKind.i64.wrap (((t : Nat) : Int) + 1)))], [(lflB, ⟨.row kB n (updR F (0 + t) [.int .u8 (IntKind.u8.wrap (IntKind.u8.wrap (bI F (0 + t) - 65) + 97))]), 5, true⟩)], 7⟩))
      (some (.normal, ⟨[(3, .slice (some ⟨lflB, 0, none⟩) n n), (8, .slice (some ⟨lflB, 0, none⟩) n n), (9, i64 ((n : Nat) : Int)), (10, i64 (IntKind.i64.wrap (((t : Nat) : Int) + 1)))], [(lflB, ⟨.row kB n F, 5, true⟩)], 7⟩)) (some (.exit 0, lflE n F)) := by kernel_rfl
theorem lfl_loop {s : ByteArray} (hs : s.size ≤ 1000000) : LoopOk Try.prog 30 (loopAt [1, 1, 0, 1, 0] (bodyOf Try.f13)) (atSt lflNt [(lflB, lflB)] 7 (lflSt s.size (loK s 0) 0) (.exit 0) (lflE s.size (loK s s.size))) := by
  refine loopE (fun _ => lflC0) s.size (fun _ _ => lflOk0) (fun _ => rfl) lfl_at (m := 60) (nt := lflNt) (ni := [(lflB, lflB)]) (et := [3]) (ei := [(lflB, lflB)]) (nx := 7) (ex := 7) (fun k => lflSt s.size (loK s k) k) rfl (by intro h; cases h) ?_ ?_
  · intro k hk
    have hb := byt_lt s k
    have hin : inR ((k : Nat) : Int) s.size = true := by unfold inR; rw [decide_eq_true (by omega), decide_eq_true (by omega)]; rfl
    have hbl : Nat.blt k s.size = true := by rw [Nat.blt_eq]; exact hk
    have hx : bI (loK s k) (0 + k) = ((byt s k : Nat) : Int) := by rw [Nat.zero_add, bI_loK, if_neg (Nat.lt_irrefl _)]
    have hsl : ∀ F : Nat → List Value, (⟨[(3, .slice (some ⟨lflB, 0, none⟩) s.size s.size), (8, .slice (some ⟨lflB, 0, none⟩) s.size s.size), (9, i64 ((s.size : Nat) : Int)), (10, i64 (IntKind.i64.wrap (((k : Nat) : Int) + 1)))], [(lflB, ⟨.row kB s.size F, 5, true⟩)], 7⟩ : St) = lflSt s.size F (k + 1) := fun F => by
      rw [wrap_i64 (by omega)]; rfl
    by_cases hu : 65 ≤ byt s k ∧ byt s k ≤ 90
    · refine ⟨_, (lfl_r s.size (loK s k) k).trans ?_, stEq_mk (sl := [(3, .slice (some ⟨lflB, 0, none⟩) s.size s.size), (8, .slice (some ⟨lflB, 0, none⟩) s.size s.size), (9, i64 ((s.size : Nat) : Int)), (10, i64 (((k + 1 : Nat) : Nat) : Int))]) rfl (mRow (fun j _ => loK_up s hu j) mNil)⟩
      unfold lflT
      rw [hsl, decide_eq_true (by omega), cond_true, hin, req_true rfl, hbl, req_true (b := true && true) rfl, decide_eq_true (by rw [hx]; omega), decide_eq_true (by rw [hx]; omega), cond_true, cond_true, req_true rfl, req_true (b := true && true) rfl]; rfl
    · refine ⟨_, (lfl_r s.size (loK s k) k).trans ?_, stEq_mk (sl := [(3, .slice (some ⟨lflB, 0, none⟩) s.size s.size), (8, .slice (some ⟨lflB, 0, none⟩) s.size s.size), (9, i64 ((s.size : Nat) : Int)), (10, i64 (((k + 1 : Nat) : Nat) : Int))]) rfl (mRow (fun j _ => loK_no s hu j) mNil)⟩
      unfold lflT
      rw [hsl (loK s k), decide_eq_true (by omega), cond_true, hin, req_true rfl, hbl, req_true (b := true && true) rfl]
      by_cases h1 : 65 ≤ byt s k
      · rw [decide_eq_true (by rw [hx]; omega), decide_eq_false (by rw [hx]; omega)]; rfl
      · rw [decide_eq_false (by rw [hx]; omega)]; rfl
  · refine ⟨lflE s.size (loK s s.size), (lfl_r s.size (loK s s.size) s.size).trans ?_, stEq_refl rfl⟩
    unfold lflT
    rw [decide_eq_false (by omega), cond_false]
noncomputable def lflC (s : ByteArray) (F0 F : Nat → List Value) : Cfg := ⟨tab, [], 30, [([1, 1, 0, 1, 0], atSt lflNt [(lflB, lflB)] 7 (lflSt s.size F0 0) (.exit 0) (lflE s.size F))]⟩
theorem lfl_ev (s : ByteArray) (F0 F : Nat → List Value) : fnS (lflC s F0 F) 60 Try.f13 (bodyOf Try.f13) [.string s] = req (stEq (lflSt s.size (strF s) 0) (lflSt s.size F0 0)) (req (kb3 s.size) (some (.string (rowS s.size (sgF s.size F))))) := by kernel_rfl
theorem lfl_sum : Sum Try.prog 13 lFoF := by
  refine sum_per (c := bodyOf Try.f13) Try.func13 (by kernel_rfl) (by kernel_rfl) (fuel := 60) fun args v h hpl => ?_
  unfold lFoF at h
  split at h
  · rename_i s
    simp only [Option.some.injEq, Prod.mk.injEq] at h
    obtain ⟨h1, rfl⟩ := h
    have h1 := Nat.le_of_ble_eq_true h1
    refine ⟨lflC s _ _, ⟨mixed, tabOk, sums_nil, oneL (lfl_loop h1)⟩, rfl, by show 1 ≤ Try.f13.ntmps; decide +kernel, (lfl_ev s _ _).trans ?_, rfl⟩
    have h0 : stEq (lflSt s.size (strF s) 0) (lflSt s.size (loK s 0) 0) = true :=
      stEq_mk (sl := [(3, .slice (some ⟨lflB, 0, none⟩) s.size s.size), (8, .slice (some ⟨lflB, 0, none⟩) s.size s.size), (9, i64 ((s.size : Nat) : Int)), (10, i64 (((0 : Nat) : Nat) : Int))]) rfl (mRow (fun j _ => loK_zero s j) mNil)
    rw [req_true h0, kb3_true, req_true rfl,
      foR_text (fun j hj => by rw [bI_sg, bI_loK, if_pos hj])]
  · simp at h
noncomputable def lsmS : Sums := [(13, lFoF)]
theorem lsmS_ok : SumsOk Try.prog lsmS := sums_cons lfl_sum sums_nil
noncomputable def lsmC : Cfg := ⟨tab, lsmS, 10, []⟩
theorem lsmOk : CfgOk Try.prog lsmC (bodyOf Try.f15) := ⟨mixed, tabOk, lsmS_ok, noL⟩
theorem lsm_ev (a b : ByteArray) : fnS lsmC 60 Try.f15 (bodyOf Try.f15) [.string a, .string b] = req (Nat.ble a.size 1000000) (req (Nat.ble b.size 1000000) (some (.bool (foT a == foT b)))) := by kernel_rfl
theorem lsm_sum : Sum Try.prog 15 lSaF := by
  refine sum_of lsmOk Try.func15 (by kernel_rfl) (by kernel_rfl) rfl (fuel := 60) fun args v h hpl => ?_
  unfold lSaF at h
  split at h
  · rename_i a b
    simp only [Option.some.injEq, Prod.mk.injEq, Bool.and_eq_true] at h
    obtain ⟨⟨h1, h2⟩, rfl⟩ := h
    exact ⟨by show 2 ≤ Try.f15.ntmps; decide +kernel, (lsm_ev a b).trans (by rw [h1, h2]; rfl), rfl⟩
  · simp at h
end Go.Proofs.Ytheldjiikjaimaa

namespace Go.W
open Go
def tf (b : Bool) : Option Value := some (.bool b)
def qS {α : Type} (s : ByteArray) (x : Option α) : Option α := req (Nat.ble s.size 1000000) x
theorem qS_eq {α : Type} {s : ByteArray} (h : s.size ≤ 1000000) (x : Option α) : qS s x = x := by unfold qS; rw [Nat.ble_eq_true_of_le h, req_true rfl]
theorem txs (a : ByteArray) : (a == a) = true := by rw [txt_eq]; exact decide_eq_true rfl
theorem rN_lit {s : ByteArray} (n : Nat) (h : (∀ k, k < n → ps s k < s.size) ∧ ps s n = s.size) : rN s = n := rN_of h
theorem lbl_lit {s : ByteArray} (n : Nat) (h : (∀ k, k < n → ps s k < s.size) ∧ ps s n = s.size) (h1 : 1 ≤ n ∧ n ≤ 24 ∧ (∀ k, k < n → okC (rc s k)) ∧ rc s 0 ≠ 32 ∧ rc s (n - 1) ≠ 32) : lbl s := by
  unfold lbl; rw [rN_lit n h]; exact h1
def tA : ByteArray := ⟨#[65, 100, 97, 32, 76, 46]⟩
def tB : ByteArray := ⟨#[32, 120]⟩
def tC : ByteArray := ⟨#[65, 100, 97]⟩
def tD : ByteArray := ⟨#[97, 68, 65]⟩
def tE : ByteArray := ⟨#[195, 164, 98]⟩
theorem tA_lbl : lbl tA := lbl_lit 6 (by decide +kernel) (by decide +kernel)
theorem tB_no : ¬ lbl tB := fun h => h.2.2.2.1 (by decide +kernel)
theorem tE_rN : rN tE = 2 := rN_lit 2 (by decide +kernel)
theorem tCD : foT tC = foT tD := txt_ext (by rw [foT_size, foT_size]; rfl) fun j hj => by
  rw [foT_size] at hj
  have hj : j < 3 := hj
  rw [byt_fo, byt_fo]
  match j, hj with
  | 0, _ => decide +kernel
  | 1, _ => decide +kernel
  | 2, _ => decide +kernel
noncomputable def wk11T : Option Value := bif lbE tA == 0 then bif lbE tB == 8 then bif foT tC == foT tD then some (.bool (((rN tE : Nat) : Int) == 2)) else tf false else tf false else tf false
theorem wk11T_eq : wk11T = some (.bool true) := by
  unfold wk11T
  rw [lbE_yes tA_lbl, lbE_no tB_no, tCD, txs, tE_rN]; rfl
def Wk11F : List Value → Option (Bool × Value)
  | [] => some (true, .bool true)
  | _ => none
noncomputable def lfoT (s t : ByteArray) : Option Value :=
  bif decide ((s.size : Int) > 500) then tf true else bif decide ((t.size : Int) > 500) then tf true else qS s (qS (foT s) (bif !(foT (foT s) == foT s) then tf false else bif (((foT s).size : Nat) : Int) != ((s.size : Nat) : Int) then tf false else
    req (Nat.ble s.size 1000000 && Nat.ble (foT s).size 1000000) (bif !(foT s == foT (foT s)) then tf false else req (Nat.ble s.size 1000000 && Nat.ble t.size 1000000) (req (Nat.ble t.size 1000000 && Nat.ble s.size 1000000) (bif !((foT s == foT t) == (foT t == foT s)) then tf false else
      qS (foT s) (qS s (bif ((rN (foT s) : Nat) : Int) != ((rN s : Nat) : Int) then tf false else qS (foT s) (qS s (bif (lbE (foT s) == 0) == (lbE s == 0) then tf true else tf false)))))))))
theorem lfoT_eq (s t : ByteArray) : lfoT s t = some (.bool true) := by
  unfold lfoT
  by_cases h1 : (s.size : Int) > 500
  · rw [decide_eq_true h1]; rfl
  by_cases h2 : (t.size : Int) > 500
  · rw [decide_eq_false h1, decide_eq_true h2]; rfl
  have hl : lbE (foT s) = lbE s := by
    by_cases h : lbl s
    · rw [lbE_yes h, lbE_yes ((lbl_fo s).2 h)]
    · rw [lbE_no h, lbE_no fun h2 => h ((lbl_fo s).1 h2)]
  have hq : ∀ {α : Type} (x : Option α), qS (foT s) x = x := fun x => qS_eq (by rw [foT_size]; omega) x
  rw [decide_eq_false h1, decide_eq_false h2, cond_false, cond_false, qS_eq (by omega), hq, foT_foT, txs, foT_size, Nat.ble_eq_true_of_le (show s.size ≤ 1000000 by omega), Nat.ble_eq_true_of_le (show t.size ≤ 1000000 by omega), hq, hq, qS_eq (by omega), qS_eq (by omega), rN_fo, hl,
    show (foT t == foT s) = (foT s == foT t) from by rw [txt_eq, txt_eq]; exact decide_eq_decide.2 eq_comm, bne_self_eq_false, bne_self_eq_false, beq_self_eq_true, beq_self_eq_true]
  rfl
end Go.W

namespace Go.Proofs.Ytheldjiikjaimaa
set_option maxRecDepth 100000
open Go.W
open Go.RowKit (Below)
noncomputable def wk11S : Sums := [(9, lChF), (15, lSaF), (11, lRnF)]
theorem wk11S_ok : SumsOk Try.prog wk11S := sums_cons lck_sum (sums_cons lsm_sum (sums_cons lru_sum sums_nil))
noncomputable def wk11C : Cfg := ⟨tab, wk11S, 14, []⟩
theorem wk11Ok : CfgOk Try.prog wk11C (bodyOf Try.f18) := ⟨mixed, tabOk, wk11S_ok, noL⟩
theorem wk11_ev : fnS wk11C 60 Try.f18 (bodyOf Try.f18) [] = wk11T := by kernel_rfl
theorem wk11_sum : Sum Try.prog 18 Wk11F := by
  refine sum_of wk11Ok Try.func18 (by kernel_rfl) (by kernel_rfl) rfl (fuel := 60) fun args v h hpl => ?_
  unfold Wk11F at h
  split at h
  · simp only [Option.some.injEq, Prod.mk.injEq] at h
    obtain ⟨_, rfl⟩ := h
    exact ⟨Nat.zero_le _, wk11_ev.trans wk11T_eq, rfl⟩
  · simp at h
noncomputable def lfoS : Sums := [(9, lChF), (11, lRnF), (13, lFoF), (15, lSaF), (18, Wk11F)]
theorem lfoS_ok : SumsOk Try.prog lfoS := sums_cons lck_sum (sums_cons lru_sum (sums_cons lfl_sum (sums_cons lsm_sum (sums_cons wk11_sum sums_nil))))
noncomputable def lfoC : Cfg := ⟨tab, lfoS, 59, []⟩
theorem lfoOk : CfgOk Try.prog lfoC (bodyOf Try.f5) := ⟨mixed, tabOk, lfoS_ok, noL⟩
theorem lfo_ev (s t : ByteArray) : fnS lfoC 60 Try.f5 (bodyOf Try.f5) [.string s, .string t] = lfoT s t := by kernel_rfl
theorem lfo_calls {s t : ByteArray} {W : World} : Calls Try.prog 5 #[.string s, .string t] W fun e W' => e = .returned (.bool true) ∧ Below W.heap.size W W' :=
  fn_sound lfoOk Try.func5 (by kernel_rfl) rfl (args := [.string s, .string t]) (fuel := 60) (by show 2 ≤ Try.f5.ntmps; decide +kernel) (by kernel_rfl) ((lfo_ev s t).trans (lfoT_eq s t)) rfl W (GOk_nil _)
end Go.Proofs.Ytheldjiikjaimaa
