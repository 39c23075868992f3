/- the cursor that the laws hold up, reckoned. -/
import Derived.Test.YtojngbobecdpeaaCurApp
namespace Go.Proofs.Ytojngbobecdpeaa
open Go at_ pm
def awkA : Cur := .mk 1 [1, 2, 5] 0 []
def awkB : Cur := .mk 1 [7] 0 []
def awkC : Cur := .mk 1 [2] 0 []
def awkS : Cur := .mk 3 [] 0 [awkA, awkB]
def awkM : Cur := .mk 4 [] 0 [awkS, awkC]
theorem awk_merge : mergeOf [[1, 2, 5], [7]] = [1, 2, 5, 7] := by
  unfold mergeOf
  simp [any_nil_left, any_lt]
theorem awkS_nums : awkS.nums = [1, 2, 5, 7] := by
  unfold awkS
  rw [Cur.nums_any]
  show mergeOf [Cur.nums (.mk 1 [1, 2, 5] 0 []), Cur.nums (.mk 1 [7] 0 [])] = _
  rw [Cur.nums_list, Cur.nums_list]
  exact awk_merge
theorem awkM_nums : awkM.nums = [1, 5, 7] := by
  unfold awkM
  rw [Cur.nums_sub]
  show minus awkS.nums (mergeOf [Cur.nums (.mk 1 [2] 0 [])]) = _
  rw [awkS_nums, Cur.nums_list]
  have : mergeOf [([2] : List Int).drop (0 : Int).toNat] = [2] := by
    unfold mergeOf
    simp [any_nil_left]
  rw [this]
  decide
theorem awkM_right : awkM.right 8 = true := by decide
theorem awkM_fwd : Cur.mk 4 [] 0 ([Cur.mk 3 [] 0 ([awkA, awkB].map (Cur.fwd (-9223372036854775808))), awkC].map (Cur.fwd (-9223372036854775808))) = awkM := by rfl
theorem awkS_fwd : Cur.mk 3 [] 0 ([awkA, awkB].map (Cur.fwd (-9223372036854775808))) = awkS := by rfl
theorem awkM_all : awkM.allN = [1, 5, 7] := by unfold Cur.allN; rw [if_pos awkM_right, awkM_nums]
theorem awkM_now : awkM.now = some 1 := by unfold Cur.now; rw [if_pos awkM_right, awkM_nums]; decide
def awkN : Cur := .mk 4 [] 0 [.mk 3 [] 0 [.mk 1 [1, 2, 5] 1 [], .mk 1 [7] 0 []], .mk 1 [2] 0 []]
theorem awkN_fwd : awkM.fwd (1 + 1) = awkN := by rfl
theorem awkN_right : awkN.right 8 = true := by decide
theorem awkN_nums : awkN.nums = [5, 7] := by
  unfold awkN
  rw [Cur.nums_sub]
  show minus (Cur.nums (.mk 3 [] 0 [.mk 1 [1, 2, 5] 1 [], .mk 1 [7] 0 []])) (mergeOf [Cur.nums (.mk 1 [2] 0 [])]) = _
  rw [Cur.nums_any, Cur.nums_list]
  show minus (mergeOf [Cur.nums (.mk 1 [1, 2, 5] 1 []), Cur.nums (.mk 1 [7] 0 [])]) _ = _
  rw [Cur.nums_list, Cur.nums_list]
  have h1 : mergeOf [([1, 2, 5] : List Int).drop (1 : Int).toNat, ([7] : List Int).drop (0 : Int).toNat] = [2, 5, 7] := by
    unfold mergeOf
    simp [any_nil_left, any_lt]
  have h2 : mergeOf [([2] : List Int).drop (0 : Int).toNat] = [2] := by
    unfold mergeOf
    simp [any_nil_left]
  rw [h1, h2]
  decide
theorem awkN_all : awkN.allN = [5, 7] := by unfold Cur.allN; rw [if_pos awkN_right, awkN_nums]
theorem awkN_now : awkN.now = some 5 := by unfold Cur.now; rw [if_pos awkN_right, awkN_nums]; decide
end Go.Proofs.Ytojngbobecdpeaa
