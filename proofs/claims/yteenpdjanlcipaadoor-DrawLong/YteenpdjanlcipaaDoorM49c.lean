/-
  A long text of noughts, worked out: a tag of 65528 bytes, count 2.
-/
import Derived.Test.YteenpdjanlcipaaDoorEh
namespace Go.W

def lgc0 : List Nat := [0, 0, 255, 248, 0, 0, 0, 0, 0, 0, 0, 0, 0, 0, 0, 0, 0, 0, 0, 0, 0, 0, 0, 0, 0, 0, 0, 0, 0, 0, 0, 0, 0, 0, 0, 0, 0, 0, 0, 0, 0, 0, 0, 0, 0, 0, 0, 0, 0, 0, 0, 0, 0, 0, 0, 0, 0, 0, 0, 0, 0, 0, 0, 0]
def lgc1 : List Nat := [0, 0, 0, 2, 128, 0, 0, 0, 0, 0, 0, 0, 0, 0, 0, 0, 0, 0, 0, 0, 0, 0, 0, 0, 0, 0, 0, 0, 0, 0, 0, 0, 0, 0, 0, 0, 0, 0, 0, 0, 0, 0, 0, 0, 0, 0, 0, 0, 0, 0, 0, 0, 0, 0, 0, 0, 0, 0, 0, 0, 0, 8, 0, 32]
def lgcS0 : S8 := ⟨2623519870, 913051727, 3856281803, 2266123916, 3987918175, 1002957123, 2436263290, 4231871978⟩
def lgcS1 : S8 := ⟨288733564, 1522376018, 1967368261, 3180522352, 215036969, 3657158744, 3183478985, 3958370249⟩
def lgcS2 : S8 := ⟨1316399323, 4204765494, 966006916, 679818359, 3689609361, 3872060287, 2815474488, 2375569034⟩
def lgcS3 : S8 := ⟨2675746690, 3059662979, 3960088395, 4222707044, 397397296, 2750109155, 1701353327, 1005837044⟩
def lgcS4 : S8 := ⟨1753399588, 1907927525, 1106248269, 382006441, 578524111, 3898658463, 3045706521, 831634658⟩
def lgcS5 : S8 := ⟨196291953, 946449500, 2494688062, 1014552863, 635372655, 3054385540, 2798580904, 900163967⟩
def lgcS6 : S8 := ⟨1396756966, 1817041446, 2958440916, 1851549713, 2254452453, 634614138, 1462418053, 466782658⟩
def lgcS7 : S8 := ⟨4199930864, 3785848908, 807586498, 35683114, 220060761, 2447913576, 1051773893, 3427580436⟩
def lgcS8 : S8 := ⟨1452381710, 3075188239, 4086287331, 824890773, 825400312, 3902315159, 2870684198, 4140387795⟩
def lgcE : S8 := ⟨1141800441, 3913926616, 3930592995, 3737091041, 1802878185, 464388253, 2361343439, 3788508942⟩
def lgcX : Nat := 30782879018457196290197234267130317847969606456496676267089015409100794629902
def lgcY : Nat := 37118038388712487068861688451717037929874592084990735916890163530872347010799
theorem lgc_0 : zsF 128 lgcS0 = lgcS1 := S8.beq_eq (by kernel_rfl)
theorem lgc_1 : zsF 128 lgcS1 = lgcS2 := S8.beq_eq (by kernel_rfl)
theorem lgc_2 : zsF 128 lgcS2 = lgcS3 := S8.beq_eq (by kernel_rfl)
theorem lgc_3 : zsF 128 lgcS3 = lgcS4 := S8.beq_eq (by kernel_rfl)
theorem lgc_4 : zsF 128 lgcS4 = lgcS5 := S8.beq_eq (by kernel_rfl)
theorem lgc_5 : zsF 128 lgcS5 = lgcS6 := S8.beq_eq (by kernel_rfl)
theorem lgc_6 : zsF 128 lgcS6 = lgcS7 := S8.beq_eq (by kernel_rfl)
theorem lgc_7 : zsF 127 lgcS7 = lgcS8 := S8.beq_eq (by kernel_rfl)
theorem lgc_z : zsF 1023 lgcS0 = lgcS8 := by
  rw [show 1023 = 128 + 895 from rfl, zsF_add, lgc_0]
  rw [show 895 = 128 + 767 from rfl, zsF_add, lgc_1]
  rw [show 767 = 128 + 639 from rfl, zsF_add, lgc_2]
  rw [show 639 = 128 + 511 from rfl, zsF_add, lgc_3]
  rw [show 511 = 128 + 383 from rfl, zsF_add, lgc_4]
  rw [show 383 = 128 + 255 from rfl, zsF_add, lgc_5]
  rw [show 255 = 128 + 127 from rfl, zsF_add, lgc_6]
  exact lgc_7
theorem lgc_sum (F : Nat → Nat) (hf0 : ∀ j, j < 64 → F j = lgc0.getD j 0) (hfz : ∀ j, 64 ≤ j → j < 65536 → F j = 0) (hf1 : ∀ j, 65536 + j < 65540 → F (65536 + j) = lgc1.getD j 0) : shN 65540 F = lgcE :=
  long_fin (n := 65540) lgc0 lgc1 lgcS0 lgcS8 lgcE (by decide +kernel) (by decide) (by kernel_rfl) lgc_z (by kernel_rfl) (by kernel_rfl) F hf0 hfz hf1
theorem lgc_pt {s : S8} (h : s = lgcE) : (trS s).2 = 0 := by
  have hX : unbytes (tdV lgcE) = lgcX := nbeq.1 (by kernel_rfl)
  rw [h, trS_eq, hX]
  exact rdX_of (b := lgcY) (by decide +kernel) (by kernel_rfl)
end Go.W
