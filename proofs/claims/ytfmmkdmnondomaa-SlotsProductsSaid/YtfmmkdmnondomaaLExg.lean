import Derived.Test.YtfmmkdmnondomaaLExd
/- The search for the greatest primes of the table. -/
namespace Ob
set_option maxRecDepth 1000000 in
theorem topL_0 : topL 20 0 = true := by decide +kernel
set_option maxRecDepth 1000000 in
theorem topL_20 : topL 20 20 = true := by decide +kernel
set_option maxRecDepth 1000000 in
theorem topL_40 : topL 20 40 = true := by decide +kernel
set_option maxRecDepth 1000000 in
theorem topL_60 : topL 20 60 = true := by decide +kernel
set_option maxRecDepth 1000000 in
theorem topL_80 : topL 20 80 = true := by decide +kernel
set_option maxRecDepth 1000000 in
theorem topL_100 : topL 15 100 = true := by decide +kernel
end Ob
