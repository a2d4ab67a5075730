/-
  A long text of noughts, worked out: a part of 65527 bytes, count 3.
-/
import Derived.Test.YteenpdjanlcipaaDoorEh
namespace Go.W

def lgb0 : List Nat := [0, 0, 0, 0, 0, 0, 255, 247, 0, 0, 0, 0, 0, 0, 0, 0, 0, 0, 0, 0, 0, 0, 0, 0, 0, 0, 0, 0, 0, 0, 0, 0, 0, 0, 0, 0, 0, 0, 0, 0, 0, 0, 0, 0, 0, 0, 0, 0, 0, 0, 0, 0, 0, 0, 0, 0, 0, 0, 0, 0, 0, 0, 0, 0]
def lgb1 : List Nat := [0, 0, 3, 128, 0, 0, 0, 0, 0, 0, 0, 0, 0, 0, 0, 0, 0, 0, 0, 0, 0, 0, 0, 0, 0, 0, 0, 0, 0, 0, 0, 0, 0, 0, 0, 0, 0, 0, 0, 0, 0, 0, 0, 0, 0, 0, 0, 0, 0, 0, 0, 0, 0, 0, 0, 0, 0, 0, 0, 0, 0, 8, 0, 24]
def lgbS0 : S8 := ⟨404981178, 279884473, 1180196958, 3736708910, 3011828819, 4260264910, 3762755480, 2463100694⟩
def lgbS1 : S8 := ⟨1250981089, 1872150013, 913976523, 3516284728, 2200384947, 1445620425, 2381821975, 3705144070⟩
def lgbS2 : S8 := ⟨2018145349, 4174418707, 3344309342, 2328695949, 1568163209, 4217359044, 500280720, 9082949⟩
def lgbS3 : S8 := ⟨1857289755, 4200820204, 3866062733, 2649383424, 3153525354, 1937089915, 1824730256, 1913910453⟩
def lgbS4 : S8 := ⟨3189984507, 1062221029, 1861813680, 1490214155, 2901076479, 89818107, 1132374562, 459185083⟩
def lgbS5 : S8 := ⟨516445083, 3427325070, 2142890096, 614459890, 3340297918, 1450526039, 129960706, 417857211⟩
def lgbS6 : S8 := ⟨780693211, 2733951725, 2146325489, 1792785892, 2467412286, 883148738, 1980064139, 1084712026⟩
def lgbS7 : S8 := ⟨486822690, 2444828639, 1448326709, 2973304246, 23224321, 3529570254, 694357259, 3056468117⟩
def lgbS8 : S8 := ⟨2963177390, 2873615863, 1292295495, 503436598, 343765800, 2070682304, 3074797496, 592851183⟩
def lgbE : S8 := ⟨3433279932, 3233565293, 2846577960, 2586919251, 1844678950, 1556929466, 2361987259, 3425305218⟩
def lgbX : Nat := 92561043880415993544327582723226214391758912115706733715902366600260739531394
def lgbY : Nat := 56672849964984005353013080323029116827968226040861628158386637380154090819801
theorem lgb_0 : zsF 128 lgbS0 = lgbS1 := S8.beq_eq (by kernel_rfl)
theorem lgb_1 : zsF 128 lgbS1 = lgbS2 := S8.beq_eq (by kernel_rfl)
theorem lgb_2 : zsF 128 lgbS2 = lgbS3 := S8.beq_eq (by kernel_rfl)
theorem lgb_3 : zsF 128 lgbS3 = lgbS4 := S8.beq_eq (by kernel_rfl)
theorem lgb_4 : zsF 128 lgbS4 = lgbS5 := S8.beq_eq (by kernel_rfl)
theorem lgb_5 : zsF 128 lgbS5 = lgbS6 := S8.beq_eq (by kernel_rfl)
theorem lgb_6 : zsF 128 lgbS6 = lgbS7 := S8.beq_eq (by kernel_rfl)
theorem lgb_7 : zsF 127 lgbS7 = lgbS8 := S8.beq_eq (by kernel_rfl)
theorem lgb_z : zsF 1023 lgbS0 = lgbS8 := by
  rw [show 1023 = 128 + 895 from rfl, zsF_add, lgb_0]
  rw [show 895 = 128 + 767 from rfl, zsF_add, lgb_1]
  rw [show 767 = 128 + 639 from rfl, zsF_add, lgb_2]
  rw [show 639 = 128 + 511 from rfl, zsF_add, lgb_3]
  rw [show 511 = 128 + 383 from rfl, zsF_add, lgb_4]
  rw [show 383 = 128 + 255 from rfl, zsF_add, lgb_5]
  rw [show 255 = 128 + 127 from rfl, zsF_add, lgb_6]
  exact lgb_7
theorem lgb_sum (F : Nat → Nat) (hf0 : ∀ j, j < 64 → F j = lgb0.getD j 0) (hfz : ∀ j, 64 ≤ j → j < 65536 → F j = 0) (hf1 : ∀ j, 65536 + j < 65539 → F (65536 + j) = lgb1.getD j 0) : shN 65539 F = lgbE :=
  long_fin (n := 65539) lgb0 lgb1 lgbS0 lgbS8 lgbE (by decide +kernel) (by decide) (by kernel_rfl) lgb_z (by kernel_rfl) (by kernel_rfl) F hf0 hfz hf1
theorem lgb_pt {s : S8} (h : s = lgbE) : (trS s).2 = 0 := by
  have hX : unbytes (tdV lgbE) = lgbX := nbeq.1 (by kernel_rfl)
  rw [h, trS_eq, hX]
  exact rdX_of (b := lgbY) (by decide +kernel) (by kernel_rfl)
end Go.W
