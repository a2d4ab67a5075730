/-
  A long text of noughts, worked out: a part of 65528 bytes, count 2.
-/
import Derived.Test.YteenpdjanlcipaaDoorEh
namespace Go.W

def lga0 : List Nat := [0, 0, 0, 0, 0, 0, 255, 248, 0, 0, 0, 0, 0, 0, 0, 0, 0, 0, 0, 0, 0, 0, 0, 0, 0, 0, 0, 0, 0, 0, 0, 0, 0, 0, 0, 0, 0, 0, 0, 0, 0, 0, 0, 0, 0, 0, 0, 0, 0, 0, 0, 0, 0, 0, 0, 0, 0, 0, 0, 0, 0, 0, 0, 0]
def lga1 : List Nat := [0, 0, 0, 2, 128, 0, 0, 0, 0, 0, 0, 0, 0, 0, 0, 0, 0, 0, 0, 0, 0, 0, 0, 0, 0, 0, 0, 0, 0, 0, 0, 0, 0, 0, 0, 0, 0, 0, 0, 0, 0, 0, 0, 0, 0, 0, 0, 0, 0, 0, 0, 0, 0, 0, 0, 0, 0, 0, 0, 0, 0, 8, 0, 32]
def lgaS0 : S8 := ⟨1966977875, 2491759180, 470879133, 3706639495, 3644104700, 3618376022, 2274948957, 3506547213⟩
def lgaS1 : S8 := ⟨935691374, 3943056623, 2126213016, 2118422289, 2045119100, 556201915, 1294057004, 3308048437⟩
def lgaS2 : S8 := ⟨1054864810, 333438372, 1789878548, 407753000, 943206967, 1227256907, 2545784452, 1944741145⟩
def lgaS3 : S8 := ⟨386454881, 3826330279, 315772584, 2763647581, 1838717442, 3393666128, 2781881739, 3444971992⟩
def lgaS4 : S8 := ⟨1395162295, 2794381357, 2016706126, 1768298942, 2466760667, 109275611, 543740075, 3369347294⟩
def lgaS5 : S8 := ⟨1451012529, 1017648380, 547989804, 623100384, 2468215166, 3282321250, 1528595213, 491361047⟩
def lgaS6 : S8 := ⟨3526804311, 1442363379, 207444276, 995843149, 507263992, 2900038588, 1247111717, 1570489603⟩
def lgaS7 : S8 := ⟨3363124247, 553889499, 377908726, 3031724283, 1154014594, 3482857325, 644337654, 3684658417⟩
def lgaS8 : S8 := ⟨2843971766, 2450300684, 1306446604, 3571780263, 1456102141, 2688179572, 3138520332, 246802183⟩
def lgaE : S8 := ⟨2737502747, 2103827962, 2353008532, 3868065105, 3757898545, 573674611, 3314950081, 1215885674⟩
def lgaX : Nat := 73802928073504313255372619447819753800323671963146371693960248922528491827562
def lgaY : Nat := 114566403133276768405287611973829816925094385944033340620107907189597057690029
theorem lga_0 : zsF 128 lgaS0 = lgaS1 := S8.beq_eq (by kernel_rfl)
theorem lga_1 : zsF 128 lgaS1 = lgaS2 := S8.beq_eq (by kernel_rfl)
theorem lga_2 : zsF 128 lgaS2 = lgaS3 := S8.beq_eq (by kernel_rfl)
theorem lga_3 : zsF 128 lgaS3 = lgaS4 := S8.beq_eq (by kernel_rfl)
theorem lga_4 : zsF 128 lgaS4 = lgaS5 := S8.beq_eq (by kernel_rfl)
theorem lga_5 : zsF 128 lgaS5 = lgaS6 := S8.beq_eq (by kernel_rfl)
theorem lga_6 : zsF 128 lgaS6 = lgaS7 := S8.beq_eq (by kernel_rfl)
theorem lga_7 : zsF 127 lgaS7 = lgaS8 := S8.beq_eq (by kernel_rfl)
theorem lga_z : zsF 1023 lgaS0 = lgaS8 := by
  rw [show 1023 = 128 + 895 from rfl, zsF_add, lga_0]
  rw [show 895 = 128 + 767 from rfl, zsF_add, lga_1]
  rw [show 767 = 128 + 639 from rfl, zsF_add, lga_2]
  rw [show 639 = 128 + 511 from rfl, zsF_add, lga_3]
  rw [show 511 = 128 + 383 from rfl, zsF_add, lga_4]
  rw [show 383 = 128 + 255 from rfl, zsF_add, lga_5]
  rw [show 255 = 128 + 127 from rfl, zsF_add, lga_6]
  exact lga_7
theorem lga_sum (F : Nat → Nat) (hf0 : ∀ j, j < 64 → F j = lga0.getD j 0) (hfz : ∀ j, 64 ≤ j → j < 65536 → F j = 0) (hf1 : ∀ j, 65536 + j < 65540 → F (65536 + j) = lga1.getD j 0) : shN 65540 F = lgaE :=
  long_fin (n := 65540) lga0 lga1 lgaS0 lgaS8 lgaE (by decide +kernel) (by decide) (by kernel_rfl) lga_z (by kernel_rfl) (by kernel_rfl) F hf0 hfz hf1
theorem lga_pt {s : S8} (h : s = lgaE) : (trS s).2 = 0 := by
  have hX : unbytes (tdV lgaE) = lgaX := nbeq.1 (by kernel_rfl)
  rw [h, trS_eq, hX]
  exact rdX_of (b := lgaY) (by decide +kernel) (by kernel_rfl)
end Go.W
