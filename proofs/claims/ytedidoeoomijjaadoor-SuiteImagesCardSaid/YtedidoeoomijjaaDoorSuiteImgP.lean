/- Images of rows of trees, part by part; how long they are; plain mathematics alone. -/
import Derived.Test.YtedidoeoomijjaaDoorSuiteMore
namespace Go.Proofs.YtedidoeoomijjaaDoor.Pl
open Go.RowKit

theorem imgs_append (c : Cry) (m : List UInt8) : ∀ a b : List Tm, imgsT c m (a ++ b) =
    if (imgsT c m a).2 ≠ 0 then ([], (imgsT c m a).2) else if (imgsT c m b).2 ≠ 0 then ([], (imgsT c m b).2) else ((imgsT c m a).1 ++ (imgsT c m b).1, 0)
  | [], b => by
    rw [List.nil_append, imgsT]
    by_cases h : (imgsT c m b).2 = 0
    · simp [h]
      exact Prod.ext rfl h
    · simp only [ne_eq, not_true_eq_false, if_false, h, not_false_eq_true, if_true]
      exact Prod.ext (by rw [imgs_err h]) rfl
  | t :: a, b => by
    rw [List.cons_append, imgsT, imgsT, imgs_append c m a b]
    by_cases h1 : (imgT c m t).2 = 0
    · by_cases h2 : (imgsT c m a).2 = 0
      · by_cases h3 : (imgsT c m b).2 = 0
        · simp [h1, h2, h3]
        · simp [h1, h2, h3]
      · simp [h1, h2]
    · simp [h1]
where
  imgs_err {c : Cry} {m : List UInt8} : ∀ {l : List Tm}, (imgsT c m l).2 ≠ 0 → (imgsT c m l).1 = []
  | [], h => by rw [imgsT] at h; exact absurd rfl h
  | t :: l, h => by
    rw [imgsT] at h ⊢
    by_cases h1 : (imgT c m t).2 = 0
    · by_cases h2 : (imgsT c m l).2 = 0
      · simp [h1, h2] at h
      · simp [h1, h2]
    · simp [h1]
theorem imgs_one (c : Cry) (m : List UInt8) (t : Tm) (b : List Tm) : imgsT c m (t :: b) = if (imgT c m t).2 ≠ 0 then ([], (imgT c m t).2) else if (imgsT c m b).2 ≠ 0 then ([], (imgsT c m b).2) else ((imgT c m t).1 :: (imgsT c m b).1, 0) := by rw [imgsT]
theorem imgs_more {c : Cry} {m : List UInt8} {l : List Tm} {k : Nat} (hk : k < l.length) {D : List (List UInt8)} (h : imgsT c m (l.take k) = (D, 0)) {y : List UInt8} (hy : imgT c m l[k] = (y, 0)) :
    imgsT c m (l.take (k + 1)) = (D ++ [y], 0) := by
  rw [List.take_succ_eq_append_getElem hk, imgs_append, h, imgs_one, hy]
  simp [imgsT]
theorem imgs_stop {c : Cry} {m : List UInt8} {l : List Tm} {k : Nat} (hk : k < l.length) {D : List (List UInt8)} (h : imgsT c m (l.take k) = (D, 0)) {y : List UInt8} {x : Nat} (hy : imgT c m l[k] = (y, x)) (hx : x ≠ 0) :
    imgsT c m l = ([], x) := by
  have e : l = l.take k ++ (l[k] :: l.drop (k + 1)) := by rw [← List.drop_eq_getElem_cons hk, List.take_append_drop]
  rw [e, imgs_append, h, imgs_one, hy]
  simp [hx]
theorem imgs_length {c : Cry} {m : List UInt8} : ∀ {l : List Tm}, (imgsT c m l).2 = 0 → (imgsT c m l).1.length = l.length
  | [], _ => by rw [imgsT]; rfl
  | t :: l, h => by
    rw [imgsT] at h ⊢
    by_cases h1 : (imgT c m t).2 = 0
    · by_cases h2 : (imgsT c m l).2 = 0
      · simp [h1, h2, imgs_length h2]
      · simp [h1, h2] at h
    · simp [h1] at h
theorem data_short {s : List UInt8} (h : s.length ≤ 1024) : (dataP s).1.length ≤ 16384 := by
  unfold dataP
  rw [if_neg (by omega)]
  have := txt_most h
  simp only [List.length_cons]
  omega
theorem dataP_short (s : List UInt8) : (dataP s).1.length ≤ 16384 := by
  by_cases h : s.length ≤ 1024
  · exact data_short h
  · unfold dataP; rw [if_pos (by omega)]; exact Nat.zero_le _
theorem atomP_short (s : List UInt8) : (atomP s).1.length ≤ 16384 := by
  unfold atomP
  split
  · exact Nat.zero_le _
  · split
    · exact Nat.zero_le _
    · have := txt_most (t := s) (by omega)
      simp only [List.length_cons]
      omega
theorem madeP_short (f : List UInt8) (l : List (List UInt8)) : (madeP f l).1.length ≤ 16384 := by
  unfold madeP
  split
  · split
    · rename_i h; exact check_len h
    · exact Nat.zero_le _
  · exact Nat.zero_le _
theorem key_short (c : Cry) (b : Bool) (m n : List UInt8) : (keyP c b m n).1.length ≤ 16384 := by
  unfold keyP
  split
  · exact atomP_short _
  · exact dataP_short _
theorem hash_short (c : Cry) (b : Bool) (t : List UInt8) : (hash8P c b t).1.length ≤ 16384 := by
  unfold hash8P
  split
  · exact Nat.zero_le _
  · split
    · exact madeP_short _ _
    · exact dataP_short _
theorem mac_short (c : Cry) (b : Bool) (k t : List UInt8) : (mac8P c b k t).1.length ≤ 16384 := by
  unfold mac8P
  split
  · exact Nat.zero_le _
  · split
    · exact madeP_short _ _
    · exact dataP_short _
theorem seal_short (c : Cry) (b : Bool) (k n t : List UInt8) : (seal8P c b k n t).1.length ≤ 16384 := by
  unfold seal8P
  split
  · exact Nat.zero_le _
  · split
    · exact madeP_short _ _
    · exact dataP_short _
theorem img_short (c : Cry) (m : List UInt8) {T : Tm} (h : T.valid) : (imgT c m T).1.length ≤ 16384 := by
  obtain ⟨hd, l⟩ := T
  rw [imgT]
  split
  · exact Nat.zero_le _
  · split
    · exact key_short _ _ _ _
    · split
      · exact madeP_short _ _
      · split
        · exact hash_short _ _ _
        · split
          · exact mac_short _ _ _ _
          · split
            · exact seal_short _ _ _ _ _
            · have := h.2.2
              rwa [Tm.enc_node] at this
theorem img_err {c : Cry} {m : List UInt8} {hd : List UInt8} {l : List Tm} {x : Nat} {D : List (List UInt8)} (h : imgsT c m l = (D, x)) (hx : x ≠ 0) : imgT c m (.node hd l) = ([], x) := by
  rw [imgT, h]
  simp [hx]
end Go.Proofs.YtedidoeoomijjaaDoor.Pl
