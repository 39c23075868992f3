/- codec: what a message is, and its bytes; nothing of the program. -/
import Derived.Test.YtpgccfgldjeomaaPutMath
import Derived.Test.YtpgccfgldjeomaaKit
namespace Go.Proofs.Ytpgccfgldjeomaa.cd

abbrev D := Int × Int
abbrev Lk := Int × Int × Int
structure Ent where
  s : ByteArray
  d : D
  t : Int
  l : List Lk
structure Msg where
  k : Int
  f : Int
  to : Int
  g : Int
  n : Int
  e : List Ent
  al : List D
  dv : List D
  dc : List D
  v : List D
  c : List D
  ki : Int
  mn : ByteArray
  mv : ByteArray
  s : List ByteArray
  er : Int

/-- bytes, or none -/
abbrev W := Option (List Nat)
def app : W → W → W
  | some x, some y => some (x ++ y)
  | _, _ => none
theorem app_none (x : W) : app x none = none := by cases x <;> rfl
theorem none_app (x : W) : app none x = none := rfl
theorem app_some (x y : List Nat) : app (some x) (some y) = some (x ++ y) := rfl
theorem app_assoc (x y z : W) : app (app x y) z = app x (app y z) := by
  cases x <;> cases y <;> cases z <;> simp [app]
theorem app_nil (x : W) : app x (some []) = x := by cases x <;> simp [app]
theorem nil_app (x : W) : app (some []) x = x := by cases x <;> simp [app]
theorem app_eq {x y : W} {r : List Nat} (h : app x y = some r) : ∃ a b, x = some a ∧ y = some b ∧ r = a ++ b := by
  cases x <;> cases y <;> simp [app] at h
  exact ⟨_, _, rfl, rfl, h.symm⟩
def num (n : Int) : W := if n < 0 ∨ 1099511627776 < n then none else some (vm.enc n.toNat)
theorem num_bad {n : Int} (h : n < 0 ∨ 1099511627776 < n) : num n = none := if_pos h
theorem num_ok {n : Nat} (h : n ≤ 1099511627776) : num (n : Int) = some (vm.enc n) := by unfold num; rw [if_neg (by omega)]; rfl
def txt (s : ByteArray) : W := if 4000 < s.size then none else some (vm.enc s.size ++ kit.bytes s)
def each {α : Type} (f : α → W) : List α → W
  | [] => some []
  | x :: r => app (f x) (each f r)
theorem each_app {α : Type} (f : α → W) (a b : List α) : each f (a ++ b) = app (each f a) (each f b) := by
  induction a with
  | nil => rw [List.nil_append]; exact (nil_app _).symm
  | cons x a ih =>
    have e : each f (x :: a ++ b) = app (f x) (each f (a ++ b)) := rfl
    have e2 : each f (x :: a) = app (f x) (each f a) := rfl
    rw [e, e2, ih, app_assoc]
def lst {α : Type} (f : α → W) (l : List α) : W := if 4000 < l.length then none else app (num l.length) (each f l)
def dot (d : D) : W := each num [d.1, d.2]
def lnk (k : Lk) : W := app (each num [k.1]) (dot k.2)
def ent (e : Ent) : W := app (txt e.s) (app (dot e.d) (app (each num [e.t]) (lst lnk e.l)))
def ctx (v c : List D) : W := app (lst dot v) (lst dot c)
def del (e : List Ent) (al v c : List D) : W := app (lst ent e) (app (lst dot al) (ctx v c))
def msg (m : Msg) : W := app (each num [m.k, m.f, m.to, m.g, m.n]) (app (del m.e m.al m.dv m.dc) (app (ctx m.v m.c) (app (each num [m.ki]) (app (txt m.mn) (app (txt m.mv) (app (lst txt m.s) (each num [m.er])))))))

theorem num_len {n : Int} {b : List Nat} (h : num n = some b) : b.length ≤ 6 := by
  unfold num at h
  split at h
  · cases h
  · obtain rfl := Option.some.inj h
    exact vm.enc_six (by omega)
theorem txt_len {s : ByteArray} {b : List Nat} (h : txt s = some b) : b.length ≤ 4006 := by
  unfold txt at h
  split at h
  · cases h
  · obtain rfl := Option.some.inj h
    have := vm.enc_six (n := s.size) (by omega)
    rw [List.length_append, kit.bytes_len]; omega
theorem each_len {α : Type} {f : α → W} {c : Nat} (hf : ∀ x b, f x = some b → b.length ≤ c) : ∀ (l : List α) (b : List Nat), each f l = some b → b.length ≤ l.length * c := by
  intro l
  induction l with
  | nil => intro b h; obtain rfl := Option.some.inj h; simp
  | cons x l ih =>
    intro b h
    obtain ⟨a, b', h1, h2, rfl⟩ := app_eq h
    have := hf x a h1
    have := ih b' h2
    simp only [List.length_append, List.length_cons, Nat.succ_mul]; omega
theorem lst_len {α : Type} {f : α → W} {c : Nat} (hf : ∀ x b, f x = some b → b.length ≤ c) {l : List α} {b : List Nat} (h : lst f l = some b) : b.length ≤ 6 + 4000 * c := by
  unfold lst at h
  split at h
  · cases h
  · obtain ⟨a, b', h1, h2, rfl⟩ := app_eq h
    have := num_len h1
    have := each_len hf l b' h2
    have : l.length * c ≤ 4000 * c := Nat.mul_le_mul_right _ (by omega)
    rw [List.length_append]; omega
theorem nums_len {l : List Int} {b : List Nat} (h : each num l = some b) : b.length ≤ l.length * 6 := each_len (fun _ _ h => num_len h) l b h
theorem dot_len {d : D} {b : List Nat} (h : dot d = some b) : b.length ≤ 12 := nums_len h
theorem lnk_len {k : Lk} {b : List Nat} (h : lnk k = some b) : b.length ≤ 18 := by
  obtain ⟨a, b', h1, h2, rfl⟩ := app_eq h
  have := nums_len h1
  have := dot_len h2
  simp only [List.length_append, List.length_cons, List.length_nil] at *; omega
theorem ent_len {e : Ent} {b : List Nat} (h : ent e = some b) : b.length ≤ 76030 := by
  obtain ⟨a, b1, h1, g1, rfl⟩ := app_eq h
  obtain ⟨c, b2, h2, g2, rfl⟩ := app_eq g1
  obtain ⟨d, b3, h3, h4, rfl⟩ := app_eq g2
  have := txt_len h1
  have := dot_len h2
  have := nums_len h3
  have := lst_len (fun _ _ h => lnk_len h) h4
  simp only [List.length_append, List.length_cons, List.length_nil] at *; omega
theorem ctx_len {v c : List D} {b : List Nat} (h : ctx v c = some b) : b.length ≤ 96012 := by
  obtain ⟨a, b', h1, h2, rfl⟩ := app_eq h
  have := lst_len (fun _ _ h => dot_len h) h1
  have := lst_len (fun _ _ h => dot_len h) h2
  simp only [List.length_append] at *; omega
theorem del_len {e : List Ent} {al v c : List D} {b : List Nat} (h : del e al v c = some b) : b.length ≤ 304264024 := by
  obtain ⟨a, b1, h1, g1, rfl⟩ := app_eq h
  obtain ⟨d, b2, h2, h3, rfl⟩ := app_eq g1
  have := lst_len (fun _ _ h => ent_len h) h1
  have := lst_len (fun _ _ h => dot_len h) h2
  have := ctx_len h3
  simp only [List.length_append] at *; omega
theorem byte_app {P : Nat → Prop} {x y : W} (hx : ∀ b, x = some b → ∀ z ∈ b, P z) (hy : ∀ b, y = some b → ∀ z ∈ b, P z) : ∀ b, app x y = some b → ∀ z ∈ b, P z := by
  intro b h z hz
  obtain ⟨a, c, h1, h2, rfl⟩ := app_eq h
  rcases List.mem_append.1 hz with h | h
  · exact hx a h1 z h
  · exact hy c h2 z h
theorem num_byte {n : Int} : ∀ b, num n = some b → ∀ z ∈ b, z < 256 := by
  intro b h z hz
  unfold num at h
  split at h
  · cases h
  · obtain rfl := Option.some.inj h
    exact vm.enc_byte _ z hz
theorem txt_byte {s : ByteArray} : ∀ b, txt s = some b → ∀ z ∈ b, z < 256 := by
  intro b h z hz
  unfold txt at h
  split at h
  · cases h
  · obtain rfl := Option.some.inj h
    rcases List.mem_append.1 hz with h | h
    · exact vm.enc_byte _ z h
    · exact kit.bytes_lt s z h
end Go.Proofs.Ytpgccfgldjeomaa.cd
