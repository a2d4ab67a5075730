/-
  A long text of noughts, worked out: a tag of 65527 bytes, count 0.
-/
import Derived.Test.YteenpdjanlcipaaDoorEh
namespace Go.W

def lgd0 : List Nat := [0, 0, 255, 247, 0, 0, 0, 0, 0, 0, 0, 0, 0, 0, 0, 0, 0, 0, 0, 0, 0, 0, 0, 0, 0, 0, 0, 0, 0, 0, 0, 0, 0, 0, 0, 0, 0, 0, 0, 0, 0, 0, 0, 0, 0, 0, 0, 0, 0, 0, 0, 0, 0, 0, 0, 0, 0, 0, 0, 0, 0, 0, 0, 0]
def lgd1 : List Nat := [0, 0, 0, 128, 0, 0, 0, 0, 0, 0, 0, 0, 0, 0, 0, 0, 0, 0, 0, 0, 0, 0, 0, 0, 0, 0, 0, 0, 0, 0, 0, 0, 0, 0, 0, 0, 0, 0, 0, 0, 0, 0, 0, 0, 0, 0, 0, 0, 0, 0, 0, 0, 0, 0, 0, 0, 0, 0, 0, 0, 0, 8, 0, 24]
def lgdS0 : S8 := ⟨51346029, 2772873313, 1544203336, 1160107466, 4128024593, 151235789, 837518130, 2536879637⟩
def lgdS1 : S8 := ⟨911558239, 3889637658, 3697686561, 4270332962, 2522995515, 632530907, 3657074862, 3405530128⟩
def lgdS2 : S8 := ⟨3641490378, 487983079, 105060063, 2876093746, 3174828733, 616620195, 1393252891, 2789503645⟩
def lgdS3 : S8 := ⟨3217477551, 2322679367, 4000802305, 1918274241, 1404625123, 1292371603, 2240399900, 1577438023⟩
def lgdS4 : S8 := ⟨4132933947, 3330658841, 3247206978, 240864506, 594478029, 3307668334, 4078467020, 2746345586⟩
def lgdS5 : S8 := ⟨1433477973, 3981065403, 1289470899, 573394866, 2869155338, 4238563529, 2328139693, 3112754955⟩
def lgdS6 : S8 := ⟨4007002117, 4090572239, 1610875061, 1527029595, 4172057093, 2537236888, 1976217723, 453765577⟩
def lgdS7 : S8 := ⟨2017547380, 3915702148, 4158900827, 2811255791, 1139087793, 835580496, 184911715, 3585785053⟩
def lgdS8 : S8 := ⟨727327164, 3621801877, 1443882481, 2103144325, 1903225222, 3764214458, 2990733706, 3143905454⟩
def lgdE : S8 := ⟨4199943326, 1462572644, 1760629407, 367915324, 2268894015, 2995416577, 3223905879, 1184008534⟩
def lgdX : Nat := 113230248083195990326596389215405288962363767887628898126933396810383544715606
def lgdY : Nat := 48824019745975840663736274416032308017316611026620482477901720422236198015235
theorem lgd_0 : zsF 128 lgdS0 = lgdS1 := S8.beq_eq (by kernel_rfl)
theorem lgd_1 : zsF 128 lgdS1 = lgdS2 := S8.beq_eq (by kernel_rfl)
theorem lgd_2 : zsF 128 lgdS2 = lgdS3 := S8.beq_eq (by kernel_rfl)
theorem lgd_3 : zsF 128 lgdS3 = lgdS4 := S8.beq_eq (by kernel_rfl)
theorem lgd_4 : zsF 128 lgdS4 = lgdS5 := S8.beq_eq (by kernel_rfl)
theorem lgd_5 : zsF 128 lgdS5 = lgdS6 := S8.beq_eq (by kernel_rfl)
theorem lgd_6 : zsF 128 lgdS6 = lgdS7 := S8.beq_eq (by kernel_rfl)
theorem lgd_7 : zsF 127 lgdS7 = lgdS8 := S8.beq_eq (by kernel_rfl)
theorem lgd_z : zsF 1023 lgdS0 = lgdS8 := by
  rw [show 1023 = 128 + 895 from rfl, zsF_add, lgd_0]
  rw [show 895 = 128 + 767 from rfl, zsF_add, lgd_1]
  rw [show 767 = 128 + 639 from rfl, zsF_add, lgd_2]
  rw [show 639 = 128 + 511 from rfl, zsF_add, lgd_3]
  rw [show 511 = 128 + 383 from rfl, zsF_add, lgd_4]
  rw [show 383 = 128 + 255 from rfl, zsF_add, lgd_5]
  rw [show 255 = 128 + 127 from rfl, zsF_add, lgd_6]
  exact lgd_7
theorem lgd_sum (F : Nat → Nat) (hf0 : ∀ j, j < 64 → F j = lgd0.getD j 0) (hfz : ∀ j, 64 ≤ j → j < 65536 → F j = 0) (hf1 : ∀ j, 65536 + j < 65539 → F (65536 + j) = lgd1.getD j 0) : shN 65539 F = lgdE :=
  long_fin (n := 65539) lgd0 lgd1 lgdS0 lgdS8 lgdE (by decide +kernel) (by decide) (by kernel_rfl) lgd_z (by kernel_rfl) (by kernel_rfl) F hf0 hfz hf1
theorem lgd_pt {s : S8} (h : s = lgdE) : (trS s).2 = 0 := by
  have hX : unbytes (tdV lgdE) = lgdX := nbeq.1 (by kernel_rfl)
  rw [h, trS_eq, hX]
  exact rdX_of (b := lgdY) (by decide +kernel) (by kernel_rfl)
end Go.W
